/- The closed facts of FnExactParsePuzzle's row. -/
import Derived.Test.YtbkfenhiaedlgaaDoorIo
set_option linter.all false
namespace Go.Proofs.YtbkfenhiaedlgaaDoor
set_option maxHeartbeats 4000000 in
theorem closedParsePuzzle : joinedFacts Tryd.checked.prog 9 Tryd.f9 Rows.fnExactParsePuzzleSpec Rows.fnExactParsePuzzleRow = true := by
  unfold joinedFacts
  simp only [Bool.and_eq_true]
  repeat' apply And.intro
  all_goals (first | with_reducible exact headEnter | (rw [headMake]; kernel_rfl) | (rw [headFinal]; kernel_rfl) | (as_aux_lemma => kernel_rfl))
theorem namedParsePuzzle : Tryd.checked.prog.funcNamed Rows.fnExactParsePuzzleRow.func = some 9 := by kernel_rfl
theorem wrapParsePuzzle : Tryd.f9.isWrapper Tryd.checked.prog Rows.fnExactParsePuzzleRow.wrapper Rows.fnExactParsePuzzleRow.mainSum := by
  unfold Func.isWrapper; first | (rw [if_pos (by decide +kernel)]; kernel_rfl) | (rw [if_neg (by decide +kernel)]; exact ⟨rfl, rfl⟩)
end Go.Proofs.YtbkfenhiaedlgaaDoor
