/- The closed facts of FnExactPuzzleText's row. -/
import Derived.Test.YtmlnjmjemhbodaaDoorIo
set_option linter.all false
namespace Go.Proofs.YtmlnjmjemhbodaaDoor
set_option maxHeartbeats 4000000 in
theorem closedPuzzleText : joinedFacts Tryd.checked.prog 8 Tryd.f8 Rows.fnExactPuzzleTextSpec Rows.fnExactPuzzleTextRow = true := by
  unfold joinedFacts
  simp only [Bool.and_eq_true]
  repeat' apply And.intro
  all_goals (first | with_reducible exact headEnter | (rw [headMake]; kernel_rfl) | (rw [headFinal]; kernel_rfl) | (as_aux_lemma => kernel_rfl))
theorem namedPuzzleText : Tryd.checked.prog.funcNamed Rows.fnExactPuzzleTextRow.func = some 8 := by kernel_rfl
theorem wrapPuzzleText : Tryd.f8.isWrapper Tryd.checked.prog Rows.fnExactPuzzleTextRow.wrapper Rows.fnExactPuzzleTextRow.mainSum := by
  unfold Func.isWrapper; first | (rw [if_pos (by decide +kernel)]; kernel_rfl) | (rw [if_neg (by decide +kernel)]; exact ⟨rfl, rfl⟩)
end Go.Proofs.YtmlnjmjemhbodaaDoor
