/- The closed facts of FnExactAllCuts's row. -/
import Derived.Test.YtohajmbgdapnhaaIo
namespace Go.Proofs.Ytohajmbgdapnhaa
set_option maxHeartbeats 4000000 in
theorem closedAllCuts : joinedFacts Try.checked.prog 3 Try.f3 Rows.fnExactAllCutsSpec Rows.fnExactAllCutsRow = true := by
  unfold joinedFacts
  simp only [Bool.and_eq_true]
  repeat' apply And.intro
  all_goals (first | with_reducible exact headEnter | (rw [headMake]; kernel_rfl) | (rw [headFinal]; kernel_rfl) | (as_aux_lemma => kernel_rfl))
theorem namedAllCuts : Try.checked.prog.funcNamed Rows.fnExactAllCutsRow.func = some 3 := by kernel_rfl
theorem wrapAllCuts : Try.f3.isWrapper Try.checked.prog Rows.fnExactAllCutsRow.wrapper Rows.fnExactAllCutsRow.mainSum := by
  unfold Func.isWrapper; first | (rw [if_pos (by decide +kernel)]; kernel_rfl) | (rw [if_neg (by decide +kernel)]; exact ⟨rfl, rfl⟩)
end Go.Proofs.Ytohajmbgdapnhaa
