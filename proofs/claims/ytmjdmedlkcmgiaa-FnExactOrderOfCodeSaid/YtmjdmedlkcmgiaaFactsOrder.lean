/- The closed facts of FnExactOrderOfCode's row. -/
import Derived.Test.YtmjdmedlkcmgiaaIo
set_option linter.all false
namespace Go.Proofs.Ytmjdmedlkcmgiaa
set_option maxHeartbeats 4000000 in
theorem closedOrderOfCode : joinedFacts Try.checked.prog 7 Try.f7 Rows.fnExactOrderOfCodeSpec Rows.fnExactOrderOfCodeRow = true := by
  unfold joinedFacts
  simp only [Bool.and_eq_true]
  repeat' apply And.intro
  all_goals (first | with_reducible exact headEnter | (rw [headMake]; kernel_rfl) | (rw [headFinal]; kernel_rfl) | (as_aux_lemma => kernel_rfl))
theorem namedOrderOfCode : Try.checked.prog.funcNamed Rows.fnExactOrderOfCodeRow.func = some 7 := by kernel_rfl
theorem wrapOrderOfCode : Try.f7.isWrapper Try.checked.prog Rows.fnExactOrderOfCodeRow.wrapper Rows.fnExactOrderOfCodeRow.mainSum := by
  unfold Func.isWrapper; first | (rw [if_pos (by decide +kernel)]; kernel_rfl) | (rw [if_neg (by decide +kernel)]; exact ⟨rfl, rfl⟩)
end Go.Proofs.Ytmjdmedlkcmgiaa
