/- The closed facts of FnExactTurnCode's row. -/
import Derived.Test.YtnnhgblgbbfmpaaIo
set_option linter.all false
namespace Go.Proofs.Ytnnhgblgbbfmpaa
set_option maxHeartbeats 4000000 in
theorem closedTurnCode : joinedFacts Try.checked.prog 5 Try.f5 Rows.fnExactTurnCodeSpec Rows.fnExactTurnCodeRow = true := by
  unfold joinedFacts
  simp only [Bool.and_eq_true]
  repeat' apply And.intro
  all_goals (first | with_reducible exact headEnter | (rw [headMake]; kernel_rfl) | (rw [headFinal]; kernel_rfl) | (as_aux_lemma => kernel_rfl))
theorem namedTurnCode : Try.checked.prog.funcNamed Rows.fnExactTurnCodeRow.func = some 5 := by kernel_rfl
theorem wrapTurnCode : Try.f5.isWrapper Try.checked.prog Rows.fnExactTurnCodeRow.wrapper Rows.fnExactTurnCodeRow.mainSum := by
  unfold Func.isWrapper; first | (rw [if_pos (by decide +kernel)]; kernel_rfl) | (rw [if_neg (by decide +kernel)]; exact ⟨rfl, rfl⟩)
end Go.Proofs.Ytnnhgblgbbfmpaa
