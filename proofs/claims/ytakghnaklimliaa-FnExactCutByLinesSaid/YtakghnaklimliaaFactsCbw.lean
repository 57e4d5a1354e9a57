/- The closed facts of FnExactCutByLines's row. -/
import Derived.Test.YtakghnaklimliaaIo
namespace Go.Proofs.Ytakghnaklimliaa
set_option maxHeartbeats 4000000 in
theorem closedCutByLines : joinedFacts Try.checked.prog 4 Try.f4 Rows.fnExactCutByLinesSpec Rows.fnExactCutByLinesRow = true := by
  unfold joinedFacts
  simp only [Bool.and_eq_true]
  repeat' apply And.intro
  all_goals (first | with_reducible exact headEnter | (rw [headMake]; kernel_rfl) | (rw [headFinal]; kernel_rfl) | (as_aux_lemma => kernel_rfl))
theorem namedCutByLines : Try.checked.prog.funcNamed Rows.fnExactCutByLinesRow.func = some 4 := by kernel_rfl
theorem wrapCutByLines : Try.f4.isWrapper Try.checked.prog Rows.fnExactCutByLinesRow.wrapper Rows.fnExactCutByLinesRow.mainSum := by
  unfold Func.isWrapper; first | (rw [if_pos (by decide +kernel)]; kernel_rfl) | (rw [if_neg (by decide +kernel)]; exact ⟨rfl, rfl⟩)
end Go.Proofs.Ytakghnaklimliaa
