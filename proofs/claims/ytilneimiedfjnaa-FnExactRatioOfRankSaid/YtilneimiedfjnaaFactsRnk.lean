/- The closed facts of FnExactRatioOfRank's row. -/
import Derived.Test.YtilneimiedfjnaaIo
set_option linter.all false
namespace Go.Proofs.Ytilneimiedfjnaa
set_option maxHeartbeats 4000000 in
theorem closedRatioOfRank : joinedFacts Try.checked.prog 13 Try.f13 Rows.fnExactRatioOfRankSpec Rows.fnExactRatioOfRankRow = true := by
  unfold joinedFacts
  simp only [Bool.and_eq_true]
  repeat' apply And.intro
  all_goals (first | with_reducible exact headEnter | (rw [headMake]; kernel_rfl) | (rw [headFinal]; kernel_rfl) | (as_aux_lemma => kernel_rfl))
theorem namedRatioOfRank : Try.checked.prog.funcNamed Rows.fnExactRatioOfRankRow.func = some 13 := by kernel_rfl
theorem wrapRatioOfRank : Try.f13.isWrapper Try.checked.prog Rows.fnExactRatioOfRankRow.wrapper Rows.fnExactRatioOfRankRow.mainSum := by
  unfold Func.isWrapper; first | (rw [if_pos (by decide +kernel)]; kernel_rfl) | (rw [if_neg (by decide +kernel)]; exact ⟨rfl, rfl⟩)
end Go.Proofs.Ytilneimiedfjnaa
