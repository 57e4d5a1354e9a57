/- The closed facts of FnExactGreatestRatio's row. -/
import Derived.Test.YtilneimiedfjnaaIo
set_option linter.all false
namespace Go.Proofs.Ytilneimiedfjnaa
set_option maxHeartbeats 4000000 in
theorem closedGreatestRatio : joinedFacts Try.checked.prog 12 Try.f12 Rows.fnExactGreatestRatioSpec Rows.fnExactGreatestRatioRow = true := by
  unfold joinedFacts
  simp only [Bool.and_eq_true]
  repeat' apply And.intro
  all_goals (first | with_reducible exact headEnter | (rw [headMake]; kernel_rfl) | (rw [headFinal]; kernel_rfl) | (as_aux_lemma => kernel_rfl))
theorem namedGreatestRatio : Try.checked.prog.funcNamed Rows.fnExactGreatestRatioRow.func = some 12 := by kernel_rfl
theorem wrapGreatestRatio : Try.f12.isWrapper Try.checked.prog Rows.fnExactGreatestRatioRow.wrapper Rows.fnExactGreatestRatioRow.mainSum := by
  unfold Func.isWrapper; first | (rw [if_pos (by decide +kernel)]; kernel_rfl) | (rw [if_neg (by decide +kernel)]; exact ⟨rfl, rfl⟩)
end Go.Proofs.Ytilneimiedfjnaa
