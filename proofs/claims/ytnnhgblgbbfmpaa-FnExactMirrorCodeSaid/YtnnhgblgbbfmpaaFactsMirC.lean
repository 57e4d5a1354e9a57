/- The closed facts of FnExactMirrorCode's row. -/
import Derived.Test.YtnnhgblgbbfmpaaIo
set_option linter.all false
namespace Go.Proofs.Ytnnhgblgbbfmpaa
set_option maxHeartbeats 4000000 in
theorem closedMirrorCode : joinedFacts Try.checked.prog 6 Try.f6 Rows.fnExactMirrorCodeSpec Rows.fnExactMirrorCodeRow = true := by
  unfold joinedFacts
  simp only [Bool.and_eq_true]
  repeat' apply And.intro
  all_goals (first | with_reducible exact headEnter | (rw [headMake]; kernel_rfl) | (rw [headFinal]; kernel_rfl) | (as_aux_lemma => kernel_rfl))
theorem namedMirrorCode : Try.checked.prog.funcNamed Rows.fnExactMirrorCodeRow.func = some 6 := by kernel_rfl
theorem wrapMirrorCode : Try.f6.isWrapper Try.checked.prog Rows.fnExactMirrorCodeRow.wrapper Rows.fnExactMirrorCodeRow.mainSum := by
  unfold Func.isWrapper; first | (rw [if_pos (by decide +kernel)]; kernel_rfl) | (rw [if_neg (by decide +kernel)]; exact ⟨rfl, rfl⟩)
end Go.Proofs.Ytnnhgblgbbfmpaa
