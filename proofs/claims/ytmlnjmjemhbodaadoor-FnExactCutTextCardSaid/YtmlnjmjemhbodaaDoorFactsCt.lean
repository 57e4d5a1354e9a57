/- The closed facts of FnExactCutText's row. -/
import Derived.Test.YtmlnjmjemhbodaaDoorIo
set_option linter.all false
namespace Go.Proofs.YtmlnjmjemhbodaaDoor
set_option maxHeartbeats 4000000 in
theorem closedCutText : joinedFacts Tryd.checked.prog 3 Tryd.f3 Rows.fnExactCutTextSpec Rows.fnExactCutTextRow = true := by
  unfold joinedFacts
  simp only [Bool.and_eq_true]
  repeat' apply And.intro
  all_goals (first | with_reducible exact headEnter | (rw [headMake]; kernel_rfl) | (rw [headFinal]; kernel_rfl) | (as_aux_lemma => kernel_rfl))
theorem namedCutText : Tryd.checked.prog.funcNamed Rows.fnExactCutTextRow.func = some 3 := by kernel_rfl
theorem wrapCutText : Tryd.f3.isWrapper Tryd.checked.prog Rows.fnExactCutTextRow.wrapper Rows.fnExactCutTextRow.mainSum := by
  unfold Func.isWrapper; first | (rw [if_pos (by decide +kernel)]; kernel_rfl) | (rw [if_neg (by decide +kernel)]; exact ⟨rfl, rfl⟩)
end Go.Proofs.YtmlnjmjemhbodaaDoor
