/- The closed facts of FnExactRatiosOf's row. -/
import Derived.Test.YtilneimiedfjnaaIo
set_option linter.all false
namespace Go.Proofs.Ytilneimiedfjnaa
set_option maxHeartbeats 4000000 in
theorem closedRatiosOf : joinedFacts Try.checked.prog 11 Try.f11 Rows.fnExactRatiosOfSpec Rows.fnExactRatiosOfRow = true := by
  unfold joinedFacts
  simp only [Bool.and_eq_true]
  repeat' apply And.intro
  all_goals (first | with_reducible exact headEnter | (rw [headMake]; kernel_rfl) | (rw [headFinal]; kernel_rfl) | (as_aux_lemma => kernel_rfl))
theorem namedRatiosOf : Try.checked.prog.funcNamed Rows.fnExactRatiosOfRow.func = some 11 := by kernel_rfl
theorem wrapRatiosOf : Try.f11.isWrapper Try.checked.prog Rows.fnExactRatiosOfRow.wrapper Rows.fnExactRatiosOfRow.mainSum := by
  unfold Func.isWrapper; first | (rw [if_pos (by decide +kernel)]; kernel_rfl) | (rw [if_neg (by decide +kernel)]; exact ⟨rfl, rfl⟩)
end Go.Proofs.Ytilneimiedfjnaa
