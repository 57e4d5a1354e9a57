/- The closed facts of FnExactNetText's row. -/
import Derived.Test.YtmlnjmjemhbodaaDoorIo
set_option linter.all false
namespace Go.Proofs.YtmlnjmjemhbodaaDoor
set_option maxHeartbeats 4000000 in
theorem closedNetText : joinedFacts Tryd.checked.prog 6 Tryd.f6 Rows.fnExactNetTextSpec Rows.fnExactNetTextRow = true := by
  unfold joinedFacts
  simp only [Bool.and_eq_true]
  repeat' apply And.intro
  all_goals (first | with_reducible exact headEnter | (rw [headMake]; kernel_rfl) | (rw [headFinal]; kernel_rfl) | (as_aux_lemma => kernel_rfl))
theorem namedNetText : Tryd.checked.prog.funcNamed Rows.fnExactNetTextRow.func = some 6 := by kernel_rfl
theorem wrapNetText : Tryd.f6.isWrapper Tryd.checked.prog Rows.fnExactNetTextRow.wrapper Rows.fnExactNetTextRow.mainSum := by
  unfold Func.isWrapper; first | (rw [if_pos (by decide +kernel)]; kernel_rfl) | (rw [if_neg (by decide +kernel)]; exact ⟨rfl, rfl⟩)
end Go.Proofs.YtmlnjmjemhbodaaDoor
