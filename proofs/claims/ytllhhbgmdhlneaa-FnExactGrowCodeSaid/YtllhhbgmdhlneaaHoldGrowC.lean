/- FnExactGrowCode returns true for every input and leaves its arguments as they were: no condition. -/
import Derived.Test.YtllhhbgmdhlneaaRowGrowC
import Derived.Test.YtllhhbgmdhlneaaFactsGrowC
namespace Go.Proofs.Ytllhhbgmdhlneaa

theorem holdsGrowCode : Rows.FnExactGrowCodeSaid :=
  OpenClaim.holds_of_wide 6 Try.f6 rfl rfl rfl rfl rfl rfl rfl ⟨rfl, rfl, rfl, rfl, rfl⟩ rfl rfl rfl rfl rfl namedGrowCode Try.func6 closedGrowCode
    (of_decide_eq_true (by kernel_rfl)) wrapGrowCode
    (fun os started H enc _ => fnExactGrowCode_lifted os started H enc)
#print axioms holdsGrowCode
end Go.Proofs.Ytllhhbgmdhlneaa
