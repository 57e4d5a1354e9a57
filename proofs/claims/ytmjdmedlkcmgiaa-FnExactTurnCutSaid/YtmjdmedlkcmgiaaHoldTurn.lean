/- FnExactTurnCut returns true for every input and leaves its arguments as they were: no condition. -/
import Derived.Test.YtmjdmedlkcmgiaaRowTurn
import Derived.Test.YtmjdmedlkcmgiaaFactsTurn
set_option linter.all false
namespace Go.Proofs.Ytmjdmedlkcmgiaa

theorem holdsTurnCut : Rows.FnExactTurnCutSaid :=
  OpenClaim.holds_of_wide 14 Try.f14 rfl rfl rfl rfl rfl rfl rfl ⟨rfl, rfl, rfl, rfl, rfl⟩ rfl rfl rfl rfl rfl namedTurnCut Try.func14 closedTurnCut
    (of_decide_eq_true (by kernel_rfl)) wrapTurnCut
    (fun os started H enc _ => fnExactTurnCut_lifted os started H enc)
#print axioms holdsTurnCut
end Go.Proofs.Ytmjdmedlkcmgiaa
