/- The closed facts of FnExactFirstCode's row. -/
import Derived.Test.YtgnlnooeapoekaaIo
namespace Go.Proofs.Ytgnlnooeapoekaa
set_option maxHeartbeats 4000000 in
theorem closedFirstCode : joinedFacts Try.checked.prog 5 Try.f5 Rows.fnExactFirstCodeSpec Rows.fnExactFirstCodeRow = true := by
  unfold joinedFacts
  simp only [Bool.and_eq_true]
  repeat' apply And.intro
  all_goals (first | with_reducible exact headEnter | (rw [headMake]; kernel_rfl) | (rw [headFinal]; kernel_rfl) | (as_aux_lemma => kernel_rfl))
theorem namedFirstCode : Try.checked.prog.funcNamed Rows.fnExactFirstCodeRow.func = some 5 := by kernel_rfl
theorem wrapFirstCode : Try.f5.isWrapper Try.checked.prog Rows.fnExactFirstCodeRow.wrapper Rows.fnExactFirstCodeRow.mainSum := by
  unfold Func.isWrapper; first | (rw [if_pos (by decide +kernel)]; kernel_rfl) | (rw [if_neg (by decide +kernel)]; exact ⟨rfl, rfl⟩)
end Go.Proofs.Ytgnlnooeapoekaa
