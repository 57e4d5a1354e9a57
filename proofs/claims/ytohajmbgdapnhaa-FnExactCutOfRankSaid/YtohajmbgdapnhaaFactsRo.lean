/- The closed facts of FnExactCutOfRank's row. -/
import Derived.Test.YtohajmbgdapnhaaIo
namespace Go.Proofs.Ytohajmbgdapnhaa
set_option maxHeartbeats 4000000 in
theorem closedCutOfRank : joinedFacts Try.checked.prog 4 Try.f4 Rows.fnExactCutOfRankSpec Rows.fnExactCutOfRankRow = true := by
  unfold joinedFacts
  simp only [Bool.and_eq_true]
  repeat' apply And.intro
  all_goals (first | with_reducible exact headEnter | (rw [headMake]; kernel_rfl) | (rw [headFinal]; kernel_rfl) | (as_aux_lemma => kernel_rfl))
theorem namedCutOfRank : Try.checked.prog.funcNamed Rows.fnExactCutOfRankRow.func = some 4 := by kernel_rfl
theorem wrapCutOfRank : Try.f4.isWrapper Try.checked.prog Rows.fnExactCutOfRankRow.wrapper Rows.fnExactCutOfRankRow.mainSum := by
  unfold Func.isWrapper; first | (rw [if_pos (by decide +kernel)]; kernel_rfl) | (rw [if_neg (by decide +kernel)]; exact ⟨rfl, rfl⟩)
end Go.Proofs.Ytohajmbgdapnhaa
