/- The closed facts of FnExactCountSimple's row. -/
import Derived.Test.YtohajmbgdapnhaaIo
namespace Go.Proofs.Ytohajmbgdapnhaa
set_option maxHeartbeats 4000000 in
theorem closedCountSimple : joinedFacts Try.checked.prog 7 Try.f7 Rows.fnExactCountSimpleSpec Rows.fnExactCountSimpleRow = true := by
  unfold joinedFacts
  simp only [Bool.and_eq_true]
  repeat' apply And.intro
  all_goals (first | with_reducible exact headEnter | (rw [headMake]; kernel_rfl) | (rw [headFinal]; kernel_rfl) | (as_aux_lemma => kernel_rfl))
theorem namedCountSimple : Try.checked.prog.funcNamed Rows.fnExactCountSimpleRow.func = some 7 := by kernel_rfl
theorem wrapCountSimple : Try.f7.isWrapper Try.checked.prog Rows.fnExactCountSimpleRow.wrapper Rows.fnExactCountSimpleRow.mainSum := by
  unfold Func.isWrapper; first | (rw [if_pos (by decide +kernel)]; kernel_rfl) | (rw [if_neg (by decide +kernel)]; exact ⟨rfl, rfl⟩)
end Go.Proofs.Ytohajmbgdapnhaa
