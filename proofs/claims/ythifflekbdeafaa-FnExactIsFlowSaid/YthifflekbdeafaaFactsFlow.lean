/- The closed facts of FnExactIsFlow's row. -/
import Derived.Test.YthifflekbdeafaaIo
namespace Go.Proofs.Ythifflekbdeafaa
set_option maxHeartbeats 4000000 in
theorem closedIsFlow : joinedFacts Try.checked.prog 3 Try.f3 Rows.fnExactIsFlowSpec Rows.fnExactIsFlowRow = true := by
  unfold joinedFacts
  simp only [Bool.and_eq_true]
  repeat' apply And.intro
  all_goals (first | with_reducible exact headEnter | (rw [headMake]; kernel_rfl) | (rw [headFinal]; kernel_rfl) | (as_aux_lemma => kernel_rfl))
theorem namedIsFlow : Try.checked.prog.funcNamed Rows.fnExactIsFlowRow.func = some 3 := by kernel_rfl
theorem wrapIsFlow : Try.f3.isWrapper Try.checked.prog Rows.fnExactIsFlowRow.wrapper Rows.fnExactIsFlowRow.mainSum := by
  unfold Func.isWrapper; first | (rw [if_pos (by decide +kernel)]; kernel_rfl) | (rw [if_neg (by decide +kernel)]; exact ⟨rfl, rfl⟩)
end Go.Proofs.Ythifflekbdeafaa
