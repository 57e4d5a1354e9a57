/- The closed facts of FnExactLinesDown's row. -/
import Derived.Test.YtilneimiedfjnaaIo
set_option linter.all false
namespace Go.Proofs.Ytilneimiedfjnaa
set_option maxHeartbeats 4000000 in
theorem closedLinesDown : joinedFacts Try.checked.prog 5 Try.f5 Rows.fnExactLinesDownSpec Rows.fnExactLinesDownRow = true := by
  unfold joinedFacts
  simp only [Bool.and_eq_true]
  repeat' apply And.intro
  all_goals (first | with_reducible exact headEnter | (rw [headMake]; kernel_rfl) | (rw [headFinal]; kernel_rfl) | (as_aux_lemma => kernel_rfl))
theorem namedLinesDown : Try.checked.prog.funcNamed Rows.fnExactLinesDownRow.func = some 5 := by kernel_rfl
theorem wrapLinesDown : Try.f5.isWrapper Try.checked.prog Rows.fnExactLinesDownRow.wrapper Rows.fnExactLinesDownRow.mainSum := by
  unfold Func.isWrapper; first | (rw [if_pos (by decide +kernel)]; kernel_rfl) | (rw [if_neg (by decide +kernel)]; exact ⟨rfl, rfl⟩)
end Go.Proofs.Ytilneimiedfjnaa
