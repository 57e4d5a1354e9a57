/- The closed facts of FnExactHarderPuzzle's row. -/
import Derived.Test.YtchabjmdjpfkfaaGreatIo
set_option linter.all false
namespace Go.Proofs.YtchabjmdjpfkfaaGreat
set_option maxHeartbeats 4000000 in
theorem closedHarderPuzzle : joinedFacts Tryz.checked.prog 4 Tryz.f4 Rows.fnExactHarderPuzzleSpec Rows.fnExactHarderPuzzleRow = true := by
  unfold joinedFacts
  simp only [Bool.and_eq_true]
  repeat' apply And.intro
  all_goals (first | with_reducible exact headEnter | (rw [headMake]; kernel_rfl) | (rw [headFinal]; kernel_rfl) | (as_aux_lemma => kernel_rfl))
theorem namedHarderPuzzle : Tryz.checked.prog.funcNamed Rows.fnExactHarderPuzzleRow.func = some 4 := by kernel_rfl
theorem wrapHarderPuzzle : Tryz.f4.isWrapper Tryz.checked.prog Rows.fnExactHarderPuzzleRow.wrapper Rows.fnExactHarderPuzzleRow.mainSum := by
  unfold Func.isWrapper; first | (rw [if_pos (by decide +kernel)]; kernel_rfl) | (rw [if_neg (by decide +kernel)]; exact ⟨rfl, rfl⟩)
end Go.Proofs.YtchabjmdjpfkfaaGreat
