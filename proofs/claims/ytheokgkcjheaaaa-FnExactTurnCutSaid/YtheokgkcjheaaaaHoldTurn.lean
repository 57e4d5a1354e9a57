/- FnExactTurnCut returns true for every input and leaves its arguments as they were: no condition. -/
import Derived.Test.YtheokgkcjheaaaaRowTurn
import Derived.Test.YtheokgkcjheaaaaFactsTurn
namespace Go.Proofs.Ytheokgkcjheaaaa

theorem holdsTurnCut : Rows.FnExactTurnCutSaid :=
  OpenClaim.holds_of_wide 8 Try.f8 rfl rfl rfl rfl rfl rfl rfl ⟨rfl, rfl, rfl, rfl, rfl⟩ rfl rfl rfl rfl rfl namedTurnCut Try.func8 closedTurnCut
    (of_decide_eq_true (by kernel_rfl)) wrapTurnCut
    (fun os started H enc _ => fnExactTurnCut_lifted os started H enc)
#print axioms holdsTurnCut
end Go.Proofs.Ytheokgkcjheaaaa
