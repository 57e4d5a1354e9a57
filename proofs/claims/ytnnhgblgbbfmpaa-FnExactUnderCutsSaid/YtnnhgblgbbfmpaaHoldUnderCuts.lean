/- FnExactUnderCuts returns true for every input and leaves its arguments as they were: no condition. -/
import Derived.Test.YtnnhgblgbbfmpaaRowUnderCuts
import Derived.Test.YtnnhgblgbbfmpaaFactsUnderCuts
set_option linter.all false
namespace Go.Proofs.Ytnnhgblgbbfmpaa

theorem holdsUnderCuts : Rows.FnExactUnderCutsSaid :=
  OpenClaim.holds_of_wide 12 Try.f12 rfl rfl rfl rfl rfl rfl rfl ⟨rfl, rfl, rfl, rfl, rfl⟩ rfl rfl rfl rfl rfl namedUnderCuts Try.func12 closedUnderCuts
    (of_decide_eq_true (by kernel_rfl)) wrapUnderCuts
    (fun os started H enc _ => fnExactUnderCuts_lifted os started H enc)
#print axioms holdsUnderCuts
end Go.Proofs.Ytnnhgblgbbfmpaa
