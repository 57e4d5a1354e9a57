/- The closed facts of FnExactCodeOf's row. -/
import Derived.Test.YtmjdmedlkcmgiaaIo
set_option linter.all false
namespace Go.Proofs.Ytmjdmedlkcmgiaa
set_option maxHeartbeats 4000000 in
theorem closedCodeOf : joinedFacts Try.checked.prog 3 Try.f3 Rows.fnExactCodeOfSpec Rows.fnExactCodeOfRow = true := by
  unfold joinedFacts
  simp only [Bool.and_eq_true]
  repeat' apply And.intro
  all_goals (first | with_reducible exact headEnter | (rw [headMake]; kernel_rfl) | (rw [headFinal]; kernel_rfl) | (as_aux_lemma => kernel_rfl))
theorem namedCodeOf : Try.checked.prog.funcNamed Rows.fnExactCodeOfRow.func = some 3 := by kernel_rfl
theorem wrapCodeOf : Try.f3.isWrapper Try.checked.prog Rows.fnExactCodeOfRow.wrapper Rows.fnExactCodeOfRow.mainSum := by
  unfold Func.isWrapper; first | (rw [if_pos (by decide +kernel)]; kernel_rfl) | (rw [if_neg (by decide +kernel)]; exact ⟨rfl, rfl⟩)
end Go.Proofs.Ytmjdmedlkcmgiaa
