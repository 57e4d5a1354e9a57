/- The closed facts of FnExactIsClue's row. -/
import Derived.Test.YtpbghalljfcaoaaIo
set_option linter.all false
namespace Go.Proofs.Ytpbghalljfcaoaa
set_option maxHeartbeats 4000000 in
theorem closedIsClue : joinedFacts Try.checked.prog 3 Try.f3 Rows.fnExactIsClueSpec Rows.fnExactIsClueRow = true := by
  unfold joinedFacts
  simp only [Bool.and_eq_true]
  repeat' apply And.intro
  all_goals (first | with_reducible exact headEnter | (rw [headMake]; kernel_rfl) | (rw [headFinal]; kernel_rfl) | (as_aux_lemma => kernel_rfl))
theorem namedIsClue : Try.checked.prog.funcNamed Rows.fnExactIsClueRow.func = some 3 := by kernel_rfl
theorem wrapIsClue : Try.f3.isWrapper Try.checked.prog Rows.fnExactIsClueRow.wrapper Rows.fnExactIsClueRow.mainSum := by
  unfold Func.isWrapper; first | (rw [if_pos (by decide +kernel)]; kernel_rfl) | (rw [if_neg (by decide +kernel)]; exact ⟨rfl, rfl⟩)
end Go.Proofs.Ytpbghalljfcaoaa
