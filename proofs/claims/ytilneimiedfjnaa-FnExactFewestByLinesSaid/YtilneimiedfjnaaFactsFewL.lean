/- The closed facts of FnExactFewestByLines's row. -/
import Derived.Test.YtilneimiedfjnaaIo
set_option linter.all false
namespace Go.Proofs.Ytilneimiedfjnaa
set_option maxHeartbeats 4000000 in
theorem closedFewestByLines : joinedFacts Try.checked.prog 14 Try.f14 Rows.fnExactFewestByLinesSpec Rows.fnExactFewestByLinesRow = true := by
  unfold joinedFacts
  simp only [Bool.and_eq_true]
  repeat' apply And.intro
  all_goals (first | with_reducible exact headEnter | (rw [headMake]; kernel_rfl) | (rw [headFinal]; kernel_rfl) | (as_aux_lemma => kernel_rfl))
theorem namedFewestByLines : Try.checked.prog.funcNamed Rows.fnExactFewestByLinesRow.func = some 14 := by kernel_rfl
theorem wrapFewestByLines : Try.f14.isWrapper Try.checked.prog Rows.fnExactFewestByLinesRow.wrapper Rows.fnExactFewestByLinesRow.mainSum := by
  unfold Func.isWrapper; first | (rw [if_pos (by decide +kernel)]; kernel_rfl) | (rw [if_neg (by decide +kernel)]; exact ⟨rfl, rfl⟩)
end Go.Proofs.Ytilneimiedfjnaa
