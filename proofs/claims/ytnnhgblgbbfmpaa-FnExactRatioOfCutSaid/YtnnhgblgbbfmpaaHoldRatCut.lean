/- FnExactRatioOfCut returns true for every input and leaves its arguments as they were: no condition. -/
import Derived.Test.YtnnhgblgbbfmpaaRowRatCut
import Derived.Test.YtnnhgblgbbfmpaaFactsRatCut
set_option linter.all false
namespace Go.Proofs.Ytnnhgblgbbfmpaa

theorem holdsRatioOfCut : Rows.FnExactRatioOfCutSaid :=
  OpenClaim.holds_of_wide 8 Try.f8 rfl rfl rfl rfl rfl rfl rfl ⟨rfl, rfl, rfl, rfl, rfl⟩ rfl rfl rfl rfl rfl namedRatioOfCut Try.func8 closedRatioOfCut
    (of_decide_eq_true (by kernel_rfl)) wrapRatioOfCut
    (fun os started H enc _ => fnExactRatioOfCut_lifted os started H enc)
#print axioms holdsRatioOfCut
end Go.Proofs.Ytnnhgblgbbfmpaa
