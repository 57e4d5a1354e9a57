/- The closed facts of FnExactFirstCode's row. -/
import Derived.Test.YtchabjmdjpfkfaaIo
set_option linter.all false
namespace Go.Proofs.Ytchabjmdjpfkfaa
set_option maxHeartbeats 4000000 in
theorem closedFirstCode : joinedFacts Try.checked.prog 12 Try.f12 Rows.fnExactFirstCodeSpec Rows.fnExactFirstCodeRow = true := by
  unfold joinedFacts
  simp only [Bool.and_eq_true]
  repeat' apply And.intro
  all_goals (first | with_reducible exact headEnter | (rw [headMake]; kernel_rfl) | (rw [headFinal]; kernel_rfl) | (as_aux_lemma => kernel_rfl))
theorem namedFirstCode : Try.checked.prog.funcNamed Rows.fnExactFirstCodeRow.func = some 12 := by kernel_rfl
theorem wrapFirstCode : Try.f12.isWrapper Try.checked.prog Rows.fnExactFirstCodeRow.wrapper Rows.fnExactFirstCodeRow.mainSum := by
  unfold Func.isWrapper; first | (rw [if_pos (by decide +kernel)]; kernel_rfl) | (rw [if_neg (by decide +kernel)]; exact ⟨rfl, rfl⟩)
end Go.Proofs.Ytchabjmdjpfkfaa
