/- The closed facts of FnExactCutsBySquares's row. -/
import Derived.Test.YtchabjmdjpfkfaaIo
set_option linter.all false
namespace Go.Proofs.Ytchabjmdjpfkfaa
set_option maxHeartbeats 4000000 in
theorem closedCutsBySquares : joinedFacts Try.checked.prog 4 Try.f4 Rows.fnExactCutsBySquaresSpec Rows.fnExactCutsBySquaresRow = true := by
  unfold joinedFacts
  simp only [Bool.and_eq_true]
  repeat' apply And.intro
  all_goals (first | with_reducible exact headEnter | (rw [headMake]; kernel_rfl) | (rw [headFinal]; kernel_rfl) | (as_aux_lemma => kernel_rfl))
theorem namedCutsBySquares : Try.checked.prog.funcNamed Rows.fnExactCutsBySquaresRow.func = some 4 := by kernel_rfl
theorem wrapCutsBySquares : Try.f4.isWrapper Try.checked.prog Rows.fnExactCutsBySquaresRow.wrapper Rows.fnExactCutsBySquaresRow.mainSum := by
  unfold Func.isWrapper; first | (rw [if_pos (by decide +kernel)]; kernel_rfl) | (rw [if_neg (by decide +kernel)]; exact ⟨rfl, rfl⟩)
end Go.Proofs.Ytchabjmdjpfkfaa
