/- The closed facts of FnExactIsPuzzle's row. -/
import Derived.Test.YtpbghalljfcaoaaIo
set_option linter.all false
namespace Go.Proofs.Ytpbghalljfcaoaa
set_option maxHeartbeats 4000000 in
theorem closedIsPuzzle : joinedFacts Try.checked.prog 4 Try.f4 Rows.fnExactIsPuzzleSpec Rows.fnExactIsPuzzleRow = true := by
  unfold joinedFacts
  simp only [Bool.and_eq_true]
  repeat' apply And.intro
  all_goals (first | with_reducible exact headEnter | (rw [headMake]; kernel_rfl) | (rw [headFinal]; kernel_rfl) | (as_aux_lemma => kernel_rfl))
theorem namedIsPuzzle : Try.checked.prog.funcNamed Rows.fnExactIsPuzzleRow.func = some 4 := by kernel_rfl
theorem wrapIsPuzzle : Try.f4.isWrapper Try.checked.prog Rows.fnExactIsPuzzleRow.wrapper Rows.fnExactIsPuzzleRow.mainSum := by
  unfold Func.isWrapper; first | (rw [if_pos (by decide +kernel)]; kernel_rfl) | (rw [if_neg (by decide +kernel)]; exact ⟨rfl, rfl⟩)
end Go.Proofs.Ytpbghalljfcaoaa
