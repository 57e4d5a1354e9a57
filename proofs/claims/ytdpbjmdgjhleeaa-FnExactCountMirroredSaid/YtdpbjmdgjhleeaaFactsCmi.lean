/- The closed facts of FnExactCountMirrored's row. -/
import Derived.Test.YtdpbjmdgjhleeaaIo
set_option linter.all false
namespace Go.Proofs.Ytdpbjmdgjhleeaa
set_option maxHeartbeats 4000000 in
theorem closedCountMirrored : joinedFacts Try.checked.prog 10 Try.f10 Rows.fnExactCountMirroredSpec Rows.fnExactCountMirroredRow = true := by
  unfold joinedFacts
  simp only [Bool.and_eq_true]
  repeat' apply And.intro
  all_goals (first | with_reducible exact headEnter | (rw [headMake]; kernel_rfl) | (rw [headFinal]; kernel_rfl) | (as_aux_lemma => kernel_rfl))
theorem namedCountMirrored : Try.checked.prog.funcNamed Rows.fnExactCountMirroredRow.func = some 10 := by kernel_rfl
theorem wrapCountMirrored : Try.f10.isWrapper Try.checked.prog Rows.fnExactCountMirroredRow.wrapper Rows.fnExactCountMirroredRow.mainSum := by
  unfold Func.isWrapper; first | (rw [if_pos (by decide +kernel)]; kernel_rfl) | (rw [if_neg (by decide +kernel)]; exact ⟨rfl, rfl⟩)
end Go.Proofs.Ytdpbjmdgjhleeaa
