/- The closed facts of FnExactSquaresBeside's row. -/
import Derived.Test.YtmcgcgclhmckeaaRows
import Derived.ProofKit
namespace Go.Proofs.Ytmcgcgclhmckeaa
set_option maxHeartbeats 4000000 in
theorem closedSquaresBeside : joinedFacts Try.checked.prog 9 Try.f9 Rows.fnExactSquaresBesideSpec Rows.fnExactSquaresBesideRow = true := by
  unfold joinedFacts
  simp only [Bool.and_eq_true]
  repeat' apply And.intro
  all_goals (as_aux_lemma => kernel_rfl)
theorem namedSquaresBeside : Try.checked.prog.funcNamed Rows.fnExactSquaresBesideRow.func = some 9 := by kernel_rfl
theorem wrapSquaresBeside : Try.f9.isWrapper Try.checked.prog Rows.fnExactSquaresBesideRow.wrapper Rows.fnExactSquaresBesideRow.mainSum := by
  unfold Func.isWrapper; first | (rw [if_pos (by decide +kernel)]; kernel_rfl) | (rw [if_neg (by decide +kernel)]; exact ⟨rfl, rfl⟩)
end Go.Proofs.Ytmcgcgclhmckeaa
