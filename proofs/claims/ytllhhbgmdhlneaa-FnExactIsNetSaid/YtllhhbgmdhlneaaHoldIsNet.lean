/- FnExactIsNet returns true for every input and leaves its arguments as they were: no condition. -/
import Derived.Test.YtllhhbgmdhlneaaRowIsNet
import Derived.Test.YtllhhbgmdhlneaaFactsIsNet
namespace Go.Proofs.Ytllhhbgmdhlneaa

theorem holdsIsNet : Rows.FnExactIsNetSaid :=
  OpenClaim.holds_of_wide 11 Try.f11 rfl rfl rfl rfl rfl rfl rfl ⟨rfl, rfl, rfl, rfl, rfl⟩ rfl rfl rfl rfl rfl namedIsNet Try.func11 closedIsNet
    (of_decide_eq_true (by kernel_rfl)) wrapIsNet
    (fun os started H enc _ => fnExactIsNet_lifted os started H enc)
#print axioms holdsIsNet
end Go.Proofs.Ytllhhbgmdhlneaa
