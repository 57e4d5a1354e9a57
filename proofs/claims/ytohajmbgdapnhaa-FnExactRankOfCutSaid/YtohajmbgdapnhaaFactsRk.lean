/- The closed facts of FnExactRankOfCut's row. -/
import Derived.Test.YtohajmbgdapnhaaIo
namespace Go.Proofs.Ytohajmbgdapnhaa
set_option maxHeartbeats 4000000 in
theorem closedRankOfCut : joinedFacts Try.checked.prog 5 Try.f5 Rows.fnExactRankOfCutSpec Rows.fnExactRankOfCutRow = true := by
  unfold joinedFacts
  simp only [Bool.and_eq_true]
  repeat' apply And.intro
  all_goals (first | with_reducible exact headEnter | (rw [headMake]; kernel_rfl) | (rw [headFinal]; kernel_rfl) | (as_aux_lemma => kernel_rfl))
theorem namedRankOfCut : Try.checked.prog.funcNamed Rows.fnExactRankOfCutRow.func = some 5 := by kernel_rfl
theorem wrapRankOfCut : Try.f5.isWrapper Try.checked.prog Rows.fnExactRankOfCutRow.wrapper Rows.fnExactRankOfCutRow.mainSum := by
  unfold Func.isWrapper; first | (rw [if_pos (by decide +kernel)]; kernel_rfl) | (rw [if_neg (by decide +kernel)]; exact ⟨rfl, rfl⟩)
end Go.Proofs.Ytohajmbgdapnhaa
