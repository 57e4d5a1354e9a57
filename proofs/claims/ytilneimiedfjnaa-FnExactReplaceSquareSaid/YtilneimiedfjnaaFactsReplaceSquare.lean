/- The closed facts of FnExactReplaceSquare's row. -/
import Derived.Test.YtilneimiedfjnaaIo
set_option linter.all false
namespace Go.Proofs.Ytilneimiedfjnaa
set_option maxHeartbeats 4000000 in
theorem closedReplaceSquare : joinedFacts Try.checked.prog 4 Try.f4 Rows.fnExactReplaceSquareSpec Rows.fnExactReplaceSquareRow = true := by
  unfold joinedFacts
  simp only [Bool.and_eq_true]
  repeat' apply And.intro
  all_goals (first | with_reducible exact headEnter | (rw [headMake]; kernel_rfl) | (rw [headFinal]; kernel_rfl) | (as_aux_lemma => kernel_rfl))
theorem namedReplaceSquare : Try.checked.prog.funcNamed Rows.fnExactReplaceSquareRow.func = some 4 := by kernel_rfl
theorem wrapReplaceSquare : Try.f4.isWrapper Try.checked.prog Rows.fnExactReplaceSquareRow.wrapper Rows.fnExactReplaceSquareRow.mainSum := by
  unfold Func.isWrapper; first | (rw [if_pos (by decide +kernel)]; kernel_rfl) | (rw [if_neg (by decide +kernel)]; exact ⟨rfl, rfl⟩)
end Go.Proofs.Ytilneimiedfjnaa
