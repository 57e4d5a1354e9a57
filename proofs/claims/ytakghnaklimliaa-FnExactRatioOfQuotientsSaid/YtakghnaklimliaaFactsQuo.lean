/- The closed facts of FnExactRatioOfQuotients's row. -/
import Derived.Test.YtakghnaklimliaaIo
namespace Go.Proofs.Ytakghnaklimliaa
set_option maxHeartbeats 4000000 in
theorem closedRatioOfQuotients : joinedFacts Try.checked.prog 5 Try.f5 Rows.fnExactRatioOfQuotientsSpec Rows.fnExactRatioOfQuotientsRow = true := by
  unfold joinedFacts
  simp only [Bool.and_eq_true]
  repeat' apply And.intro
  all_goals (first | with_reducible exact headEnter | (rw [headMake]; kernel_rfl) | (rw [headFinal]; kernel_rfl) | (as_aux_lemma => kernel_rfl))
theorem namedRatioOfQuotients : Try.checked.prog.funcNamed Rows.fnExactRatioOfQuotientsRow.func = some 5 := by kernel_rfl
theorem wrapRatioOfQuotients : Try.f5.isWrapper Try.checked.prog Rows.fnExactRatioOfQuotientsRow.wrapper Rows.fnExactRatioOfQuotientsRow.mainSum := by
  unfold Func.isWrapper; first | (rw [if_pos (by decide +kernel)]; kernel_rfl) | (rw [if_neg (by decide +kernel)]; exact ⟨rfl, rfl⟩)
end Go.Proofs.Ytakghnaklimliaa
