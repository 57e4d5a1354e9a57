/- The closed facts of FnExactPartsOf's row. -/
import Derived.Test.YtmjdmedlkcmgiaaIo
set_option linter.all false
namespace Go.Proofs.Ytmjdmedlkcmgiaa
set_option maxHeartbeats 4000000 in
theorem closedPartsOf : joinedFacts Try.checked.prog 13 Try.f13 Rows.fnExactPartsOfSpec Rows.fnExactPartsOfRow = true := by
  unfold joinedFacts
  simp only [Bool.and_eq_true]
  repeat' apply And.intro
  all_goals (first | with_reducible exact headEnter | (rw [headMake]; kernel_rfl) | (rw [headFinal]; kernel_rfl) | (as_aux_lemma => kernel_rfl))
theorem namedPartsOf : Try.checked.prog.funcNamed Rows.fnExactPartsOfRow.func = some 13 := by kernel_rfl
theorem wrapPartsOf : Try.f13.isWrapper Try.checked.prog Rows.fnExactPartsOfRow.wrapper Rows.fnExactPartsOfRow.mainSum := by
  unfold Func.isWrapper; first | (rw [if_pos (by decide +kernel)]; kernel_rfl) | (rw [if_neg (by decide +kernel)]; exact ⟨rfl, rfl⟩)
end Go.Proofs.Ytmjdmedlkcmgiaa
