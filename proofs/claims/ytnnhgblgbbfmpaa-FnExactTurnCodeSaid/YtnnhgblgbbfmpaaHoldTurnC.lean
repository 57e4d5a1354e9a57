/- FnExactTurnCode returns true for every input and leaves its arguments as they were: no condition. -/
import Derived.Test.YtnnhgblgbbfmpaaRowTurnC
import Derived.Test.YtnnhgblgbbfmpaaFactsTurnC
set_option linter.all false
namespace Go.Proofs.Ytnnhgblgbbfmpaa

theorem holdsTurnCode : Rows.FnExactTurnCodeSaid :=
  OpenClaim.holds_of_wide 5 Try.f5 rfl rfl rfl rfl rfl rfl rfl ⟨rfl, rfl, rfl, rfl, rfl⟩ rfl rfl rfl rfl rfl namedTurnCode Try.func5 closedTurnCode
    (of_decide_eq_true (by kernel_rfl)) wrapTurnCode
    (fun os started H enc _ => fnExactTurnCode_lifted os started H enc)
#print axioms holdsTurnCode
end Go.Proofs.Ytnnhgblgbbfmpaa
