/- The closed facts of FnExactAddClue's row. -/
import Derived.Test.YtpbghalljfcaoaaIo
set_option linter.all false
namespace Go.Proofs.Ytpbghalljfcaoaa
set_option maxHeartbeats 4000000 in
theorem closedAddClue : joinedFacts Try.checked.prog 7 Try.f7 Rows.fnExactAddClueSpec Rows.fnExactAddClueRow = true := by
  unfold joinedFacts
  simp only [Bool.and_eq_true]
  repeat' apply And.intro
  all_goals (first | with_reducible exact headEnter | (rw [headMake]; kernel_rfl) | (rw [headFinal]; kernel_rfl) | (as_aux_lemma => kernel_rfl))
theorem namedAddClue : Try.checked.prog.funcNamed Rows.fnExactAddClueRow.func = some 7 := by kernel_rfl
theorem wrapAddClue : Try.f7.isWrapper Try.checked.prog Rows.fnExactAddClueRow.wrapper Rows.fnExactAddClueRow.mainSum := by
  unfold Func.isWrapper; first | (rw [if_pos (by decide +kernel)]; kernel_rfl) | (rw [if_neg (by decide +kernel)]; exact ⟨rfl, rfl⟩)
end Go.Proofs.Ytpbghalljfcaoaa
