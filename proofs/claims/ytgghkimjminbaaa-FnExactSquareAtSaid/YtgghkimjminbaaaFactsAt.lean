/- The closed facts of FnExactSquareAt's row. -/
import Derived.Test.YtgghkimjminbaaaRows
import Derived.ProofKit
set_option linter.all false
namespace Go.Proofs.Ytgghkimjminbaaa
set_option maxHeartbeats 4000000 in
theorem closedSquareAt : joinedFacts Try.checked.prog 9 Try.f9 Rows.fnExactSquareAtSpec Rows.fnExactSquareAtRow = true := by
  unfold joinedFacts
  simp only [Bool.and_eq_true]
  repeat' apply And.intro
  all_goals (as_aux_lemma => kernel_rfl)
theorem namedSquareAt : Try.checked.prog.funcNamed Rows.fnExactSquareAtRow.func = some 9 := by kernel_rfl
theorem wrapSquareAt : Try.f9.isWrapper Try.checked.prog Rows.fnExactSquareAtRow.wrapper Rows.fnExactSquareAtRow.mainSum := by
  unfold Func.isWrapper; first | (rw [if_pos (by decide +kernel)]; kernel_rfl) | (rw [if_neg (by decide +kernel)]; exact ⟨rfl, rfl⟩)
end Go.Proofs.Ytgghkimjminbaaa
