/- The closed facts of FnExactIsBalanced's row. -/
import Derived.Test.YthifflekbdeafaaIo
namespace Go.Proofs.Ythifflekbdeafaa
set_option maxHeartbeats 4000000 in
theorem closedIsBalanced : joinedFacts Try.checked.prog 4 Try.f4 Rows.fnExactIsBalancedSpec Rows.fnExactIsBalancedRow = true := by
  unfold joinedFacts
  simp only [Bool.and_eq_true]
  repeat' apply And.intro
  all_goals (first | with_reducible exact headEnter | (rw [headMake]; kernel_rfl) | (rw [headFinal]; kernel_rfl) | (as_aux_lemma => kernel_rfl))
theorem namedIsBalanced : Try.checked.prog.funcNamed Rows.fnExactIsBalancedRow.func = some 4 := by kernel_rfl
theorem wrapIsBalanced : Try.f4.isWrapper Try.checked.prog Rows.fnExactIsBalancedRow.wrapper Rows.fnExactIsBalancedRow.mainSum := by
  unfold Func.isWrapper; first | (rw [if_pos (by decide +kernel)]; kernel_rfl) | (rw [if_neg (by decide +kernel)]; exact ⟨rfl, rfl⟩)
end Go.Proofs.Ythifflekbdeafaa
