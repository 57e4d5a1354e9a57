/- The closed facts of FnExactCountWithSides's row. -/
import Derived.Test.YtohajmbgdapnhaaIo
set_option linter.all false
namespace Go.Proofs.Ytohajmbgdapnhaa
set_option maxHeartbeats 4000000 in
theorem closedCountWithSides : joinedFacts Try.checked.prog 6 Try.f6 Rows.fnExactCountWithSidesSpec Rows.fnExactCountWithSidesRow = true := by
  unfold joinedFacts
  simp only [Bool.and_eq_true]
  repeat' apply And.intro
  all_goals (first | with_reducible exact headEnter | (rw [headMake]; kernel_rfl) | (rw [headFinal]; kernel_rfl) | (as_aux_lemma => kernel_rfl))
theorem namedCountWithSides : Try.checked.prog.funcNamed Rows.fnExactCountWithSidesRow.func = some 6 := by kernel_rfl
theorem wrapCountWithSides : Try.f6.isWrapper Try.checked.prog Rows.fnExactCountWithSidesRow.wrapper Rows.fnExactCountWithSidesRow.mainSum := by
  unfold Func.isWrapper; first | (rw [if_pos (by decide +kernel)]; kernel_rfl) | (rw [if_neg (by decide +kernel)]; exact ⟨rfl, rfl⟩)
end Go.Proofs.Ytohajmbgdapnhaa
