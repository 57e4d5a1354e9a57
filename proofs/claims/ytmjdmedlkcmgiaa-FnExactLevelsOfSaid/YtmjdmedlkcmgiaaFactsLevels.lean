/- The closed facts of FnExactLevelsOf's row. -/
import Derived.Test.YtmjdmedlkcmgiaaIo
set_option linter.all false
namespace Go.Proofs.Ytmjdmedlkcmgiaa
set_option maxHeartbeats 4000000 in
theorem closedLevelsOf : joinedFacts Try.checked.prog 8 Try.f8 Rows.fnExactLevelsOfSpec Rows.fnExactLevelsOfRow = true := by
  unfold joinedFacts
  simp only [Bool.and_eq_true]
  repeat' apply And.intro
  all_goals (first | with_reducible exact headEnter | (rw [headMake]; kernel_rfl) | (rw [headFinal]; kernel_rfl) | (as_aux_lemma => kernel_rfl))
theorem namedLevelsOf : Try.checked.prog.funcNamed Rows.fnExactLevelsOfRow.func = some 8 := by kernel_rfl
theorem wrapLevelsOf : Try.f8.isWrapper Try.checked.prog Rows.fnExactLevelsOfRow.wrapper Rows.fnExactLevelsOfRow.mainSum := by
  unfold Func.isWrapper; first | (rw [if_pos (by decide +kernel)]; kernel_rfl) | (rw [if_neg (by decide +kernel)]; exact ⟨rfl, rfl⟩)
end Go.Proofs.Ytmjdmedlkcmgiaa
