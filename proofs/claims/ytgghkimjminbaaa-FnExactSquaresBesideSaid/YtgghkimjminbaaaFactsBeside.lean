/- The closed facts of FnExactSquaresBeside's row. -/
import Derived.Test.YtgghkimjminbaaaRows
import Derived.ProofKit
set_option linter.all false
namespace Go.Proofs.Ytgghkimjminbaaa
set_option maxHeartbeats 4000000 in
theorem closedSquaresBeside : joinedFacts Try.checked.prog 10 Try.f10 Rows.fnExactSquaresBesideSpec Rows.fnExactSquaresBesideRow = true := by
  unfold joinedFacts
  simp only [Bool.and_eq_true]
  repeat' apply And.intro
  all_goals (as_aux_lemma => kernel_rfl)
theorem namedSquaresBeside : Try.checked.prog.funcNamed Rows.fnExactSquaresBesideRow.func = some 10 := by kernel_rfl
theorem wrapSquaresBeside : Try.f10.isWrapper Try.checked.prog Rows.fnExactSquaresBesideRow.wrapper Rows.fnExactSquaresBesideRow.mainSum := by
  unfold Func.isWrapper; first | (rw [if_pos (by decide +kernel)]; kernel_rfl) | (rw [if_neg (by decide +kernel)]; exact ⟨rfl, rfl⟩)
end Go.Proofs.Ytgghkimjminbaaa
