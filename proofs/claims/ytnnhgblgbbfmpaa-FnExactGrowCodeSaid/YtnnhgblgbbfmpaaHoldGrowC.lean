/- FnExactGrowCode returns true for every input and leaves its arguments as they were: no condition. -/
import Derived.Test.YtnnhgblgbbfmpaaRowGrowC
import Derived.Test.YtnnhgblgbbfmpaaFactsGrowC
set_option linter.all false
namespace Go.Proofs.Ytnnhgblgbbfmpaa

theorem holdsGrowCode : Rows.FnExactGrowCodeSaid :=
  OpenClaim.holds_of_wide 7 Try.f7 rfl rfl rfl rfl rfl rfl rfl ⟨rfl, rfl, rfl, rfl, rfl⟩ rfl rfl rfl rfl rfl namedGrowCode Try.func7 closedGrowCode
    (of_decide_eq_true (by kernel_rfl)) wrapGrowCode
    (fun os started H enc _ => fnExactGrowCode_lifted os started H enc)
#print axioms holdsGrowCode
end Go.Proofs.Ytnnhgblgbbfmpaa
