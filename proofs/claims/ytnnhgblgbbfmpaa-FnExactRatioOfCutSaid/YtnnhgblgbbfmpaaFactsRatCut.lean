/- The closed facts of FnExactRatioOfCut's row. -/
import Derived.Test.YtnnhgblgbbfmpaaIo
set_option linter.all false
namespace Go.Proofs.Ytnnhgblgbbfmpaa
set_option maxHeartbeats 4000000 in
theorem closedRatioOfCut : joinedFacts Try.checked.prog 8 Try.f8 Rows.fnExactRatioOfCutSpec Rows.fnExactRatioOfCutRow = true := by
  unfold joinedFacts
  simp only [Bool.and_eq_true]
  repeat' apply And.intro
  all_goals (first | with_reducible exact headEnter | (rw [headMake]; kernel_rfl) | (rw [headFinal]; kernel_rfl) | (as_aux_lemma => kernel_rfl))
theorem namedRatioOfCut : Try.checked.prog.funcNamed Rows.fnExactRatioOfCutRow.func = some 8 := by kernel_rfl
theorem wrapRatioOfCut : Try.f8.isWrapper Try.checked.prog Rows.fnExactRatioOfCutRow.wrapper Rows.fnExactRatioOfCutRow.mainSum := by
  unfold Func.isWrapper; first | (rw [if_pos (by decide +kernel)]; kernel_rfl) | (rw [if_neg (by decide +kernel)]; exact ⟨rfl, rfl⟩)
end Go.Proofs.Ytnnhgblgbbfmpaa
