/- The closed facts of FnExactGrowCut's row. -/
import Derived.Test.YtnnhgblgbbfmpaaIo
set_option linter.all false
namespace Go.Proofs.Ytnnhgblgbbfmpaa
set_option maxHeartbeats 4000000 in
theorem closedGrowCut : joinedFacts Try.checked.prog 4 Try.f4 Rows.fnExactGrowCutSpec Rows.fnExactGrowCutRow = true := by
  unfold joinedFacts
  simp only [Bool.and_eq_true]
  repeat' apply And.intro
  all_goals (first | with_reducible exact headEnter | (rw [headMake]; kernel_rfl) | (rw [headFinal]; kernel_rfl) | (as_aux_lemma => kernel_rfl))
theorem namedGrowCut : Try.checked.prog.funcNamed Rows.fnExactGrowCutRow.func = some 4 := by kernel_rfl
theorem wrapGrowCut : Try.f4.isWrapper Try.checked.prog Rows.fnExactGrowCutRow.wrapper Rows.fnExactGrowCutRow.mainSum := by
  unfold Func.isWrapper; first | (rw [if_pos (by decide +kernel)]; kernel_rfl) | (rw [if_neg (by decide +kernel)]; exact ⟨rfl, rfl⟩)
end Go.Proofs.Ytnnhgblgbbfmpaa
