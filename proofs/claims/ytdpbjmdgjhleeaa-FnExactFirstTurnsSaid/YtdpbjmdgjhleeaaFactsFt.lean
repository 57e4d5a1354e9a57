/- The closed facts of FnExactFirstTurns's row. -/
import Derived.Test.YtdpbjmdgjhleeaaIo
set_option linter.all false
namespace Go.Proofs.Ytdpbjmdgjhleeaa
set_option maxHeartbeats 4000000 in
theorem closedFirstTurns : joinedFacts Try.checked.prog 9 Try.f9 Rows.fnExactFirstTurnsSpec Rows.fnExactFirstTurnsRow = true := by
  unfold joinedFacts
  simp only [Bool.and_eq_true]
  repeat' apply And.intro
  all_goals (first | with_reducible exact headEnter | (rw [headMake]; kernel_rfl) | (rw [headFinal]; kernel_rfl) | (as_aux_lemma => kernel_rfl))
theorem namedFirstTurns : Try.checked.prog.funcNamed Rows.fnExactFirstTurnsRow.func = some 9 := by kernel_rfl
theorem wrapFirstTurns : Try.f9.isWrapper Try.checked.prog Rows.fnExactFirstTurnsRow.wrapper Rows.fnExactFirstTurnsRow.mainSum := by
  unfold Func.isWrapper; first | (rw [if_pos (by decide +kernel)]; kernel_rfl) | (rw [if_neg (by decide +kernel)]; exact ⟨rfl, rfl⟩)
end Go.Proofs.Ytdpbjmdgjhleeaa
