/- The closed facts of FnExactGroupOfSquare's row. -/
import Derived.Test.YtmjdmedlkcmgiaaIo
set_option linter.all false
namespace Go.Proofs.Ytmjdmedlkcmgiaa
set_option maxHeartbeats 4000000 in
theorem closedGroupOfSquare : joinedFacts Try.checked.prog 9 Try.f9 Rows.fnExactGroupOfSquareSpec Rows.fnExactGroupOfSquareRow = true := by
  unfold joinedFacts
  simp only [Bool.and_eq_true]
  repeat' apply And.intro
  all_goals (first | with_reducible exact headEnter | (rw [headMake]; kernel_rfl) | (rw [headFinal]; kernel_rfl) | (as_aux_lemma => kernel_rfl))
theorem namedGroupOfSquare : Try.checked.prog.funcNamed Rows.fnExactGroupOfSquareRow.func = some 9 := by kernel_rfl
theorem wrapGroupOfSquare : Try.f9.isWrapper Try.checked.prog Rows.fnExactGroupOfSquareRow.wrapper Rows.fnExactGroupOfSquareRow.mainSum := by
  unfold Func.isWrapper; first | (rw [if_pos (by decide +kernel)]; kernel_rfl) | (rw [if_neg (by decide +kernel)]; exact ⟨rfl, rfl⟩)
end Go.Proofs.Ytmjdmedlkcmgiaa
