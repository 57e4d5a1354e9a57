/- The closed facts of FnExactPartAcross's row. -/
import Derived.Test.YtilneimiedfjnaaIo
set_option linter.all false
namespace Go.Proofs.Ytilneimiedfjnaa
set_option maxHeartbeats 4000000 in
theorem closedPartAcross : joinedFacts Try.checked.prog 7 Try.f7 Rows.fnExactPartAcrossSpec Rows.fnExactPartAcrossRow = true := by
  unfold joinedFacts
  simp only [Bool.and_eq_true]
  repeat' apply And.intro
  all_goals (first | with_reducible exact headEnter | (rw [headMake]; kernel_rfl) | (rw [headFinal]; kernel_rfl) | (as_aux_lemma => kernel_rfl))
theorem namedPartAcross : Try.checked.prog.funcNamed Rows.fnExactPartAcrossRow.func = some 7 := by kernel_rfl
theorem wrapPartAcross : Try.f7.isWrapper Try.checked.prog Rows.fnExactPartAcrossRow.wrapper Rows.fnExactPartAcrossRow.mainSum := by
  unfold Func.isWrapper; first | (rw [if_pos (by decide +kernel)]; kernel_rfl) | (rw [if_neg (by decide +kernel)]; exact ⟨rfl, rfl⟩)
end Go.Proofs.Ytilneimiedfjnaa
