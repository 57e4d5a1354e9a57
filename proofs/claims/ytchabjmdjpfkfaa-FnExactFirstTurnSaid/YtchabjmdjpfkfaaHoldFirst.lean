/- FnExactFirstTurn returns true for every input and leaves its arguments as they were: no condition. -/
import Derived.Test.YtchabjmdjpfkfaaRowFirst
import Derived.Test.YtchabjmdjpfkfaaFactsFirst
set_option linter.all false
namespace Go.Proofs.Ytchabjmdjpfkfaa

theorem holdsFirstTurn : Rows.FnExactFirstTurnSaid :=
  OpenClaim.holds_of_wide 10 Try.f10 rfl rfl rfl rfl rfl rfl rfl ⟨rfl, rfl, rfl, rfl, rfl⟩ rfl rfl rfl rfl rfl namedFirstTurn Try.func10 closedFirstTurn
    (of_decide_eq_true (by kernel_rfl)) wrapFirstTurn
    (fun os started H enc _ => fnExactFirstTurn_lifted os started H enc)
#print axioms holdsFirstTurn
end Go.Proofs.Ytchabjmdjpfkfaa
