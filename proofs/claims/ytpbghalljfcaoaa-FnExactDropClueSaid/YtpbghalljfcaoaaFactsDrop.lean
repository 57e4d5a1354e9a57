/- The closed facts of FnExactDropClue's row. -/
import Derived.Test.YtpbghalljfcaoaaIo
set_option linter.all false
namespace Go.Proofs.Ytpbghalljfcaoaa
set_option maxHeartbeats 4000000 in
theorem closedDropClue : joinedFacts Try.checked.prog 6 Try.f6 Rows.fnExactDropClueSpec Rows.fnExactDropClueRow = true := by
  unfold joinedFacts
  simp only [Bool.and_eq_true]
  repeat' apply And.intro
  all_goals (first | with_reducible exact headEnter | (rw [headMake]; kernel_rfl) | (rw [headFinal]; kernel_rfl) | (as_aux_lemma => kernel_rfl))
theorem namedDropClue : Try.checked.prog.funcNamed Rows.fnExactDropClueRow.func = some 6 := by kernel_rfl
theorem wrapDropClue : Try.f6.isWrapper Try.checked.prog Rows.fnExactDropClueRow.wrapper Rows.fnExactDropClueRow.mainSum := by
  unfold Func.isWrapper; first | (rw [if_pos (by decide +kernel)]; kernel_rfl) | (rw [if_neg (by decide +kernel)]; exact ⟨rfl, rfl⟩)
end Go.Proofs.Ytpbghalljfcaoaa
