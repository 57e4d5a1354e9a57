/- The closed facts of FnExactCutOfFill's row. -/
import Derived.Test.YtohajmbgdapnhaaIo
set_option linter.all false
namespace Go.Proofs.Ytohajmbgdapnhaa
set_option maxHeartbeats 4000000 in
theorem closedCutOfFill : joinedFacts Try.checked.prog 11 Try.f11 Rows.fnExactCutOfFillSpec Rows.fnExactCutOfFillRow = true := by
  unfold joinedFacts
  simp only [Bool.and_eq_true]
  repeat' apply And.intro
  all_goals (first | with_reducible exact headEnter | (rw [headMake]; kernel_rfl) | (rw [headFinal]; kernel_rfl) | (as_aux_lemma => kernel_rfl))
theorem namedCutOfFill : Try.checked.prog.funcNamed Rows.fnExactCutOfFillRow.func = some 11 := by kernel_rfl
theorem wrapCutOfFill : Try.f11.isWrapper Try.checked.prog Rows.fnExactCutOfFillRow.wrapper Rows.fnExactCutOfFillRow.mainSum := by
  unfold Func.isWrapper; first | (rw [if_pos (by decide +kernel)]; kernel_rfl) | (rw [if_neg (by decide +kernel)]; exact ⟨rfl, rfl⟩)
end Go.Proofs.Ytohajmbgdapnhaa
