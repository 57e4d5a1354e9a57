/- The closed facts of FnExactFirstTurn's row. -/
import Derived.Test.YtchabjmdjpfkfaaIo
set_option linter.all false
namespace Go.Proofs.Ytchabjmdjpfkfaa
set_option maxHeartbeats 4000000 in
theorem closedFirstTurn : joinedFacts Try.checked.prog 10 Try.f10 Rows.fnExactFirstTurnSpec Rows.fnExactFirstTurnRow = true := by
  unfold joinedFacts
  simp only [Bool.and_eq_true]
  repeat' apply And.intro
  all_goals (first | with_reducible exact headEnter | (rw [headMake]; kernel_rfl) | (rw [headFinal]; kernel_rfl) | (as_aux_lemma => kernel_rfl))
theorem namedFirstTurn : Try.checked.prog.funcNamed Rows.fnExactFirstTurnRow.func = some 10 := by kernel_rfl
theorem wrapFirstTurn : Try.f10.isWrapper Try.checked.prog Rows.fnExactFirstTurnRow.wrapper Rows.fnExactFirstTurnRow.mainSum := by
  unfold Func.isWrapper; first | (rw [if_pos (by decide +kernel)]; kernel_rfl) | (rw [if_neg (by decide +kernel)]; exact ⟨rfl, rfl⟩)
end Go.Proofs.Ytchabjmdjpfkfaa
