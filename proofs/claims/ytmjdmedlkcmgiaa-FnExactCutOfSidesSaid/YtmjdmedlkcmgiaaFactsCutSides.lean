/- The closed facts of FnExactCutOfSides's row. -/
import Derived.Test.YtmjdmedlkcmgiaaIo
set_option linter.all false
namespace Go.Proofs.Ytmjdmedlkcmgiaa
set_option maxHeartbeats 4000000 in
theorem closedCutOfSides : joinedFacts Try.checked.prog 5 Try.f5 Rows.fnExactCutOfSidesSpec Rows.fnExactCutOfSidesRow = true := by
  unfold joinedFacts
  simp only [Bool.and_eq_true]
  repeat' apply And.intro
  all_goals (first | with_reducible exact headEnter | (rw [headMake]; kernel_rfl) | (rw [headFinal]; kernel_rfl) | (as_aux_lemma => kernel_rfl))
theorem namedCutOfSides : Try.checked.prog.funcNamed Rows.fnExactCutOfSidesRow.func = some 5 := by kernel_rfl
theorem wrapCutOfSides : Try.f5.isWrapper Try.checked.prog Rows.fnExactCutOfSidesRow.wrapper Rows.fnExactCutOfSidesRow.mainSum := by
  unfold Func.isWrapper; first | (rw [if_pos (by decide +kernel)]; kernel_rfl) | (rw [if_neg (by decide +kernel)]; exact ⟨rfl, rfl⟩)
end Go.Proofs.Ytmjdmedlkcmgiaa
