/- The closed facts of FnExactOneSquare's row. -/
import Derived.Test.YtgghkimjminbaaaRows
import Derived.ProofKit
set_option linter.all false
namespace Go.Proofs.Ytgghkimjminbaaa
set_option maxHeartbeats 4000000 in
theorem closedOneSquare : joinedFacts Try.checked.prog 5 Try.f5 Rows.fnExactOneSquareSpec Rows.fnExactOneSquareRow = true := by
  unfold joinedFacts
  simp only [Bool.and_eq_true]
  repeat' apply And.intro
  all_goals (as_aux_lemma => kernel_rfl)
theorem namedOneSquare : Try.checked.prog.funcNamed Rows.fnExactOneSquareRow.func = some 5 := by kernel_rfl
theorem wrapOneSquare : Try.f5.isWrapper Try.checked.prog Rows.fnExactOneSquareRow.wrapper Rows.fnExactOneSquareRow.mainSum := by
  unfold Func.isWrapper; first | (rw [if_pos (by decide +kernel)]; kernel_rfl) | (rw [if_neg (by decide +kernel)]; exact ⟨rfl, rfl⟩)
end Go.Proofs.Ytgghkimjminbaaa
