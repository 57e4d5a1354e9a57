/- The closed facts of FnExactCutByLines's row. -/
import Derived.Test.YtlfikjjdhmaemaaIo
set_option linter.all false
namespace Go.Proofs.Ytlfikjjdhmaemaa
set_option maxHeartbeats 4000000 in
theorem closedCutByLines : joinedFacts Try.checked.prog 14 Try.f14 Rows.fnExactCutByLinesSpec Rows.fnExactCutByLinesRow = true := by
  unfold joinedFacts
  simp only [Bool.and_eq_true]
  repeat' apply And.intro
  all_goals (first | with_reducible exact headEnter | (rw [headMake]; kernel_rfl) | (rw [headFinal]; kernel_rfl) | (as_aux_lemma => kernel_rfl))
theorem namedCutByLines : Try.checked.prog.funcNamed Rows.fnExactCutByLinesRow.func = some 14 := by kernel_rfl
theorem wrapCutByLines : Try.f14.isWrapper Try.checked.prog Rows.fnExactCutByLinesRow.wrapper Rows.fnExactCutByLinesRow.mainSum := by
  unfold Func.isWrapper; first | (rw [if_pos (by decide +kernel)]; kernel_rfl) | (rw [if_neg (by decide +kernel)]; exact ⟨rfl, rfl⟩)
end Go.Proofs.Ytlfikjjdhmaemaa
