/- The closed facts of FnExactLinesAcross's row. -/
import Derived.Test.YtilneimiedfjnaaIo
set_option linter.all false
namespace Go.Proofs.Ytilneimiedfjnaa
set_option maxHeartbeats 4000000 in
theorem closedLinesAcross : joinedFacts Try.checked.prog 6 Try.f6 Rows.fnExactLinesAcrossSpec Rows.fnExactLinesAcrossRow = true := by
  unfold joinedFacts
  simp only [Bool.and_eq_true]
  repeat' apply And.intro
  all_goals (first | with_reducible exact headEnter | (rw [headMake]; kernel_rfl) | (rw [headFinal]; kernel_rfl) | (as_aux_lemma => kernel_rfl))
theorem namedLinesAcross : Try.checked.prog.funcNamed Rows.fnExactLinesAcrossRow.func = some 6 := by kernel_rfl
theorem wrapLinesAcross : Try.f6.isWrapper Try.checked.prog Rows.fnExactLinesAcrossRow.wrapper Rows.fnExactLinesAcrossRow.mainSum := by
  unfold Func.isWrapper; first | (rw [if_pos (by decide +kernel)]; kernel_rfl) | (rw [if_neg (by decide +kernel)]; exact ⟨rfl, rfl⟩)
end Go.Proofs.Ytilneimiedfjnaa
