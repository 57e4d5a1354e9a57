/- The closed facts of FnExactRatioOfWord's row. -/
import Derived.Test.YtilneimiedfjnaaIo
set_option linter.all false
namespace Go.Proofs.Ytilneimiedfjnaa
set_option maxHeartbeats 4000000 in
theorem closedRatioOfWord : joinedFacts Try.checked.prog 9 Try.f9 Rows.fnExactRatioOfWordSpec Rows.fnExactRatioOfWordRow = true := by
  unfold joinedFacts
  simp only [Bool.and_eq_true]
  repeat' apply And.intro
  all_goals (first | with_reducible exact headEnter | (rw [headMake]; kernel_rfl) | (rw [headFinal]; kernel_rfl) | (as_aux_lemma => kernel_rfl))
theorem namedRatioOfWord : Try.checked.prog.funcNamed Rows.fnExactRatioOfWordRow.func = some 9 := by kernel_rfl
theorem wrapRatioOfWord : Try.f9.isWrapper Try.checked.prog Rows.fnExactRatioOfWordRow.wrapper Rows.fnExactRatioOfWordRow.mainSum := by
  unfold Func.isWrapper; first | (rw [if_pos (by decide +kernel)]; kernel_rfl) | (rw [if_neg (by decide +kernel)]; exact ⟨rfl, rfl⟩)
end Go.Proofs.Ytilneimiedfjnaa
