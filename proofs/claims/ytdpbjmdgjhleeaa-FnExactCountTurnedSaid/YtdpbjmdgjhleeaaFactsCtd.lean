/- The closed facts of FnExactCountTurned's row. -/
import Derived.Test.YtdpbjmdgjhleeaaIo
set_option linter.all false
namespace Go.Proofs.Ytdpbjmdgjhleeaa
set_option maxHeartbeats 4000000 in
theorem closedCountTurned : joinedFacts Try.checked.prog 8 Try.f8 Rows.fnExactCountTurnedSpec Rows.fnExactCountTurnedRow = true := by
  unfold joinedFacts
  simp only [Bool.and_eq_true]
  repeat' apply And.intro
  all_goals (first | with_reducible exact headEnter | (rw [headMake]; kernel_rfl) | (rw [headFinal]; kernel_rfl) | (as_aux_lemma => kernel_rfl))
theorem namedCountTurned : Try.checked.prog.funcNamed Rows.fnExactCountTurnedRow.func = some 8 := by kernel_rfl
theorem wrapCountTurned : Try.f8.isWrapper Try.checked.prog Rows.fnExactCountTurnedRow.wrapper Rows.fnExactCountTurnedRow.mainSum := by
  unfold Func.isWrapper; first | (rw [if_pos (by decide +kernel)]; kernel_rfl) | (rw [if_neg (by decide +kernel)]; exact ⟨rfl, rfl⟩)
end Go.Proofs.Ytdpbjmdgjhleeaa
