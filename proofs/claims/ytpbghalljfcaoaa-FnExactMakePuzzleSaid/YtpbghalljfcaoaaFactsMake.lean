/- The closed facts of FnExactMakePuzzle's row. -/
import Derived.Test.YtpbghalljfcaoaaIo
set_option linter.all false
namespace Go.Proofs.Ytpbghalljfcaoaa
set_option maxHeartbeats 4000000 in
theorem closedMakePuzzle : joinedFacts Try.checked.prog 8 Try.f8 Rows.fnExactMakePuzzleSpec Rows.fnExactMakePuzzleRow = true := by
  unfold joinedFacts
  simp only [Bool.and_eq_true]
  repeat' apply And.intro
  all_goals (first | with_reducible exact headEnter | (rw [headMake]; kernel_rfl) | (rw [headFinal]; kernel_rfl) | (as_aux_lemma => kernel_rfl))
theorem namedMakePuzzle : Try.checked.prog.funcNamed Rows.fnExactMakePuzzleRow.func = some 8 := by kernel_rfl
theorem wrapMakePuzzle : Try.f8.isWrapper Try.checked.prog Rows.fnExactMakePuzzleRow.wrapper Rows.fnExactMakePuzzleRow.mainSum := by
  unfold Func.isWrapper; first | (rw [if_pos (by decide +kernel)]; kernel_rfl) | (rw [if_neg (by decide +kernel)]; exact ⟨rfl, rfl⟩)
end Go.Proofs.Ytpbghalljfcaoaa
