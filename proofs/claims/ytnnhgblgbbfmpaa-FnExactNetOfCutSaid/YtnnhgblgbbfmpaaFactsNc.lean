/- The closed facts of FnExactNetOfCut's row. -/
import Derived.Test.YtnnhgblgbbfmpaaIo
set_option linter.all false
namespace Go.Proofs.Ytnnhgblgbbfmpaa
set_option maxHeartbeats 4000000 in
theorem closedLinesOf : joinedFacts Try.checked.prog 10 Try.f10 Rows.fnExactNetOfCutSpec Rows.fnExactNetOfCutRow = true := by
  unfold joinedFacts
  simp only [Bool.and_eq_true]
  repeat' apply And.intro
  all_goals (first | with_reducible exact headEnter | (rw [headMake]; kernel_rfl) | (rw [headFinal]; kernel_rfl) | (as_aux_lemma => kernel_rfl))
theorem namedLinesOf : Try.checked.prog.funcNamed Rows.fnExactNetOfCutRow.func = some 10 := by kernel_rfl
theorem wrapLinesOf : Try.f10.isWrapper Try.checked.prog Rows.fnExactNetOfCutRow.wrapper Rows.fnExactNetOfCutRow.mainSum := by
  unfold Func.isWrapper; first | (rw [if_pos (by decide +kernel)]; kernel_rfl) | (rw [if_neg (by decide +kernel)]; exact ⟨rfl, rfl⟩)
end Go.Proofs.Ytnnhgblgbbfmpaa
