/- The closed facts of FnExactLinesOf's row. -/
import Derived.Test.YtnnhgblgbbfmpaaIo
set_option linter.all false
namespace Go.Proofs.Ytnnhgblgbbfmpaa
set_option maxHeartbeats 4000000 in
theorem closedLinesOf : joinedFacts Try.checked.prog 9 Try.f9 Rows.fnExactLinesOfSpec Rows.fnExactLinesOfRow = true := by
  unfold joinedFacts
  simp only [Bool.and_eq_true]
  repeat' apply And.intro
  all_goals (first | with_reducible exact headEnter | (rw [headMake]; kernel_rfl) | (rw [headFinal]; kernel_rfl) | (as_aux_lemma => kernel_rfl))
theorem namedLinesOf : Try.checked.prog.funcNamed Rows.fnExactLinesOfRow.func = some 9 := by kernel_rfl
theorem wrapLinesOf : Try.f9.isWrapper Try.checked.prog Rows.fnExactLinesOfRow.wrapper Rows.fnExactLinesOfRow.mainSum := by
  unfold Func.isWrapper; first | (rw [if_pos (by decide +kernel)]; kernel_rfl) | (rw [if_neg (by decide +kernel)]; exact ⟨rfl, rfl⟩)
end Go.Proofs.Ytnnhgblgbbfmpaa
