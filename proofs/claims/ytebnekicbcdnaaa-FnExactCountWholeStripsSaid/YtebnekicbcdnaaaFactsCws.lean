/- The closed facts of FnExactCountWholeStrips's row. -/
import Derived.Test.YtebnekicbcdnaaaIo
set_option linter.all false
namespace Go.Proofs.Ytebnekicbcdnaaa
set_option maxHeartbeats 4000000 in
theorem closedCountWholeStrips : joinedFacts Try.checked.prog 13 Try.f13 Rows.fnExactCountWholeStripsSpec Rows.fnExactCountWholeStripsRow = true := by
  unfold joinedFacts
  simp only [Bool.and_eq_true]
  repeat' apply And.intro
  all_goals (first | with_reducible exact headEnter | (rw [headMake]; kernel_rfl) | (rw [headFinal]; kernel_rfl) | (as_aux_lemma => kernel_rfl))
theorem namedCountWholeStrips : Try.checked.prog.funcNamed Rows.fnExactCountWholeStripsRow.func = some 13 := by kernel_rfl
theorem wrapCountWholeStrips : Try.f13.isWrapper Try.checked.prog Rows.fnExactCountWholeStripsRow.wrapper Rows.fnExactCountWholeStripsRow.mainSum := by
  unfold Func.isWrapper; first | (rw [if_pos (by decide +kernel)]; kernel_rfl) | (rw [if_neg (by decide +kernel)]; exact ⟨rfl, rfl⟩)
end Go.Proofs.Ytebnekicbcdnaaa
