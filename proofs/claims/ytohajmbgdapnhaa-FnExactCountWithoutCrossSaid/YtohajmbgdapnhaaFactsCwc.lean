/- The closed facts of FnExactCountWithoutCross's row. -/
import Derived.Test.YtohajmbgdapnhaaIo
namespace Go.Proofs.Ytohajmbgdapnhaa
set_option maxHeartbeats 4000000 in
theorem closedCountWithoutCross : joinedFacts Try.checked.prog 8 Try.f8 Rows.fnExactCountWithoutCrossSpec Rows.fnExactCountWithoutCrossRow = true := by
  unfold joinedFacts
  simp only [Bool.and_eq_true]
  repeat' apply And.intro
  all_goals (first | with_reducible exact headEnter | (rw [headMake]; kernel_rfl) | (rw [headFinal]; kernel_rfl) | (as_aux_lemma => kernel_rfl))
theorem namedCountWithoutCross : Try.checked.prog.funcNamed Rows.fnExactCountWithoutCrossRow.func = some 8 := by kernel_rfl
theorem wrapCountWithoutCross : Try.f8.isWrapper Try.checked.prog Rows.fnExactCountWithoutCrossRow.wrapper Rows.fnExactCountWithoutCrossRow.mainSum := by
  unfold Func.isWrapper; first | (rw [if_pos (by decide +kernel)]; kernel_rfl) | (rw [if_neg (by decide +kernel)]; exact ⟨rfl, rfl⟩)
end Go.Proofs.Ytohajmbgdapnhaa
