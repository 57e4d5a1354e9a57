/- The closed facts of FnExactIsCutCode's row. -/
import Derived.Test.YtmjdmedlkcmgiaaIo
set_option linter.all false
namespace Go.Proofs.Ytmjdmedlkcmgiaa
set_option maxHeartbeats 4000000 in
theorem closedIsCutCode : joinedFacts Try.checked.prog 6 Try.f6 Rows.fnExactIsCutCodeSpec Rows.fnExactIsCutCodeRow = true := by
  unfold joinedFacts
  simp only [Bool.and_eq_true]
  repeat' apply And.intro
  all_goals (first | with_reducible exact headEnter | (rw [headMake]; kernel_rfl) | (rw [headFinal]; kernel_rfl) | (as_aux_lemma => kernel_rfl))
theorem namedIsCutCode : Try.checked.prog.funcNamed Rows.fnExactIsCutCodeRow.func = some 6 := by kernel_rfl
theorem wrapIsCutCode : Try.f6.isWrapper Try.checked.prog Rows.fnExactIsCutCodeRow.wrapper Rows.fnExactIsCutCodeRow.mainSum := by
  unfold Func.isWrapper; first | (rw [if_pos (by decide +kernel)]; kernel_rfl) | (rw [if_neg (by decide +kernel)]; exact ⟨rfl, rfl⟩)
end Go.Proofs.Ytmjdmedlkcmgiaa
