/- The closed facts of FnExactWidthOfCode's row. -/
import Derived.Test.YtmjdmedlkcmgiaaIo
set_option linter.all false
namespace Go.Proofs.Ytmjdmedlkcmgiaa
set_option maxHeartbeats 4000000 in
theorem closedWidthOfCode : joinedFacts Try.checked.prog 10 Try.f10 Rows.fnExactWidthOfCodeSpec Rows.fnExactWidthOfCodeRow = true := by
  unfold joinedFacts
  simp only [Bool.and_eq_true]
  repeat' apply And.intro
  all_goals (first | with_reducible exact headEnter | (rw [headMake]; kernel_rfl) | (rw [headFinal]; kernel_rfl) | (as_aux_lemma => kernel_rfl))
theorem namedWidthOfCode : Try.checked.prog.funcNamed Rows.fnExactWidthOfCodeRow.func = some 10 := by kernel_rfl
theorem wrapWidthOfCode : Try.f10.isWrapper Try.checked.prog Rows.fnExactWidthOfCodeRow.wrapper Rows.fnExactWidthOfCodeRow.mainSum := by
  unfold Func.isWrapper; first | (rw [if_pos (by decide +kernel)]; kernel_rfl) | (rw [if_neg (by decide +kernel)]; exact ⟨rfl, rfl⟩)
end Go.Proofs.Ytmjdmedlkcmgiaa
