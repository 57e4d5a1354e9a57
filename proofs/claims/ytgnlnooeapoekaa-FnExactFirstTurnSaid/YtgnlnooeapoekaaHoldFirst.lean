/- FnExactFirstTurn returns true for every input and leaves its arguments as they were: no condition. -/
import Derived.Test.YtgnlnooeapoekaaRowFirst
import Derived.Test.YtgnlnooeapoekaaFactsFirst
namespace Go.Proofs.Ytgnlnooeapoekaa

theorem holdsFirstTurn : Rows.FnExactFirstTurnSaid :=
  OpenClaim.holds_of_wide 4 Try.f4 rfl rfl rfl rfl rfl rfl rfl ⟨rfl, rfl, rfl, rfl, rfl⟩ rfl rfl rfl rfl rfl namedFirstTurn Try.func4 closedFirstTurn
    (of_decide_eq_true (by kernel_rfl)) wrapFirstTurn
    (fun os started H enc _ => fnExactFirstTurn_lifted os started H enc)
#print axioms holdsFirstTurn
end Go.Proofs.Ytgnlnooeapoekaa
