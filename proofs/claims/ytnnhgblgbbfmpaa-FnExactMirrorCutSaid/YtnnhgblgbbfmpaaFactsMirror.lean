/- The closed facts of FnExactMirrorCut's row. -/
import Derived.Test.YtnnhgblgbbfmpaaIo
set_option linter.all false
namespace Go.Proofs.Ytnnhgblgbbfmpaa
set_option maxHeartbeats 4000000 in
theorem closedMirrorCut : joinedFacts Try.checked.prog 3 Try.f3 Rows.fnExactMirrorCutSpec Rows.fnExactMirrorCutRow = true := by
  unfold joinedFacts
  simp only [Bool.and_eq_true]
  repeat' apply And.intro
  all_goals (first | with_reducible exact headEnter | (rw [headMake]; kernel_rfl) | (rw [headFinal]; kernel_rfl) | (as_aux_lemma => kernel_rfl))
theorem namedMirrorCut : Try.checked.prog.funcNamed Rows.fnExactMirrorCutRow.func = some 3 := by kernel_rfl
theorem wrapMirrorCut : Try.f3.isWrapper Try.checked.prog Rows.fnExactMirrorCutRow.wrapper Rows.fnExactMirrorCutRow.mainSum := by
  unfold Func.isWrapper; first | (rw [if_pos (by decide +kernel)]; kernel_rfl) | (rw [if_neg (by decide +kernel)]; exact ⟨rfl, rfl⟩)
end Go.Proofs.Ytnnhgblgbbfmpaa
