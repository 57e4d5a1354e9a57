/- The closed facts of FnExactSpiralCut's row. -/
import Derived.Test.YtnnhgblgbbfmpaaIo
set_option linter.all false
namespace Go.Proofs.Ytnnhgblgbbfmpaa
set_option maxHeartbeats 4000000 in
theorem closedSpiralCut : joinedFacts Try.checked.prog 14 Try.f14 Rows.fnExactSpiralCutSpec Rows.fnExactSpiralCutRow = true := by
  unfold joinedFacts
  simp only [Bool.and_eq_true]
  repeat' apply And.intro
  all_goals (first | with_reducible exact headEnter | (rw [headMake]; kernel_rfl) | (rw [headFinal]; kernel_rfl) | (as_aux_lemma => kernel_rfl))
theorem namedSpiralCut : Try.checked.prog.funcNamed Rows.fnExactSpiralCutRow.func = some 14 := by kernel_rfl
theorem wrapSpiralCut : Try.f14.isWrapper Try.checked.prog Rows.fnExactSpiralCutRow.wrapper Rows.fnExactSpiralCutRow.mainSum := by
  unfold Func.isWrapper; first | (rw [if_pos (by decide +kernel)]; kernel_rfl) | (rw [if_neg (by decide +kernel)]; exact ⟨rfl, rfl⟩)
end Go.Proofs.Ytnnhgblgbbfmpaa
