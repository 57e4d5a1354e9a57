/- The closed facts of FnExactTurnCut's row. -/
import Derived.Test.YtmjdmedlkcmgiaaIo
set_option linter.all false
namespace Go.Proofs.Ytmjdmedlkcmgiaa
set_option maxHeartbeats 4000000 in
theorem closedTurnCut : joinedFacts Try.checked.prog 14 Try.f14 Rows.fnExactTurnCutSpec Rows.fnExactTurnCutRow = true := by
  unfold joinedFacts
  simp only [Bool.and_eq_true]
  repeat' apply And.intro
  all_goals (first | with_reducible exact headEnter | (rw [headMake]; kernel_rfl) | (rw [headFinal]; kernel_rfl) | (as_aux_lemma => kernel_rfl))
theorem namedTurnCut : Try.checked.prog.funcNamed Rows.fnExactTurnCutRow.func = some 14 := by kernel_rfl
theorem wrapTurnCut : Try.f14.isWrapper Try.checked.prog Rows.fnExactTurnCutRow.wrapper Rows.fnExactTurnCutRow.mainSum := by
  unfold Func.isWrapper; first | (rw [if_pos (by decide +kernel)]; kernel_rfl) | (rw [if_neg (by decide +kernel)]; exact ⟨rfl, rfl⟩)
end Go.Proofs.Ytmjdmedlkcmgiaa
