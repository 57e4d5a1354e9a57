/- The closed facts of FnExactSquaresAtEdges's row. -/
import Derived.Test.YtgghkimjminbaaaRows
import Derived.ProofKit
set_option linter.all false
namespace Go.Proofs.Ytgghkimjminbaaa
set_option maxHeartbeats 4000000 in
theorem closedSquaresAtEdges : joinedFacts Try.checked.prog 11 Try.f11 Rows.fnExactSquaresAtEdgesSpec Rows.fnExactSquaresAtEdgesRow = true := by
  unfold joinedFacts
  simp only [Bool.and_eq_true]
  repeat' apply And.intro
  all_goals (as_aux_lemma => kernel_rfl)
theorem namedSquaresAtEdges : Try.checked.prog.funcNamed Rows.fnExactSquaresAtEdgesRow.func = some 11 := by kernel_rfl
theorem wrapSquaresAtEdges : Try.f11.isWrapper Try.checked.prog Rows.fnExactSquaresAtEdgesRow.wrapper Rows.fnExactSquaresAtEdgesRow.mainSum := by
  unfold Func.isWrapper; first | (rw [if_pos (by decide +kernel)]; kernel_rfl) | (rw [if_neg (by decide +kernel)]; exact ⟨rfl, rfl⟩)
end Go.Proofs.Ytgghkimjminbaaa
