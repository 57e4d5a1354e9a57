/- The closed facts of FnExactCutOfCode's row. -/
import Derived.Test.YtmjdmedlkcmgiaaIo
set_option linter.all false
namespace Go.Proofs.Ytmjdmedlkcmgiaa
set_option maxHeartbeats 4000000 in
theorem closedCutOfCode : joinedFacts Try.checked.prog 4 Try.f4 Rows.fnExactCutOfCodeSpec Rows.fnExactCutOfCodeRow = true := by
  unfold joinedFacts
  simp only [Bool.and_eq_true]
  repeat' apply And.intro
  all_goals (first | with_reducible exact headEnter | (rw [headMake]; kernel_rfl) | (rw [headFinal]; kernel_rfl) | (as_aux_lemma => kernel_rfl))
theorem namedCutOfCode : Try.checked.prog.funcNamed Rows.fnExactCutOfCodeRow.func = some 4 := by kernel_rfl
theorem wrapCutOfCode : Try.f4.isWrapper Try.checked.prog Rows.fnExactCutOfCodeRow.wrapper Rows.fnExactCutOfCodeRow.mainSum := by
  unfold Func.isWrapper; first | (rw [if_pos (by decide +kernel)]; kernel_rfl) | (rw [if_neg (by decide +kernel)]; exact ⟨rfl, rfl⟩)
end Go.Proofs.Ytmjdmedlkcmgiaa
