/- The closed facts of FnExactIsSimple's row. -/
import Derived.Test.YtmjdmedlkcmgiaaIo
set_option linter.all false
namespace Go.Proofs.Ytmjdmedlkcmgiaa
set_option maxHeartbeats 4000000 in
theorem closedIsSimple : joinedFacts Try.checked.prog 12 Try.f12 Rows.fnExactIsSimpleSpec Rows.fnExactIsSimpleRow = true := by
  unfold joinedFacts
  simp only [Bool.and_eq_true]
  repeat' apply And.intro
  all_goals (first | with_reducible exact headEnter | (rw [headMake]; kernel_rfl) | (rw [headFinal]; kernel_rfl) | (as_aux_lemma => kernel_rfl))
theorem namedIsSimple : Try.checked.prog.funcNamed Rows.fnExactIsSimpleRow.func = some 12 := by kernel_rfl
theorem wrapIsSimple : Try.f12.isWrapper Try.checked.prog Rows.fnExactIsSimpleRow.wrapper Rows.fnExactIsSimpleRow.mainSum := by
  unfold Func.isWrapper; first | (rw [if_pos (by decide +kernel)]; kernel_rfl) | (rw [if_neg (by decide +kernel)]; exact ⟨rfl, rfl⟩)
end Go.Proofs.Ytmjdmedlkcmgiaa
