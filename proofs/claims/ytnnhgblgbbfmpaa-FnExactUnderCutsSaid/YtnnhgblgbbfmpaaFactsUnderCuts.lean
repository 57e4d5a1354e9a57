/- The closed facts of FnExactUnderCuts's row. -/
import Derived.Test.YtnnhgblgbbfmpaaIo
set_option linter.all false
namespace Go.Proofs.Ytnnhgblgbbfmpaa
set_option maxHeartbeats 4000000 in
theorem closedUnderCuts : joinedFacts Try.checked.prog 12 Try.f12 Rows.fnExactUnderCutsSpec Rows.fnExactUnderCutsRow = true := by
  unfold joinedFacts
  simp only [Bool.and_eq_true]
  repeat' apply And.intro
  all_goals (first | with_reducible exact headEnter | (rw [headMake]; kernel_rfl) | (rw [headFinal]; kernel_rfl) | (as_aux_lemma => kernel_rfl))
theorem namedUnderCuts : Try.checked.prog.funcNamed Rows.fnExactUnderCutsRow.func = some 12 := by kernel_rfl
theorem wrapUnderCuts : Try.f12.isWrapper Try.checked.prog Rows.fnExactUnderCutsRow.wrapper Rows.fnExactUnderCutsRow.mainSum := by
  unfold Func.isWrapper; first | (rw [if_pos (by decide +kernel)]; kernel_rfl) | (rw [if_neg (by decide +kernel)]; exact ⟨rfl, rfl⟩)
end Go.Proofs.Ytnnhgblgbbfmpaa
