/- The closed facts of FnExactPutSquare's row. -/
import Derived.Test.YtnnhgblgbbfmpaaIo
set_option linter.all false
namespace Go.Proofs.Ytnnhgblgbbfmpaa
set_option maxHeartbeats 4000000 in
theorem closedPutSquare : joinedFacts Try.checked.prog 13 Try.f13 Rows.fnExactPutSquareSpec Rows.fnExactPutSquareRow = true := by
  unfold joinedFacts
  simp only [Bool.and_eq_true]
  repeat' apply And.intro
  all_goals (first | with_reducible exact headEnter | (rw [headMake]; kernel_rfl) | (rw [headFinal]; kernel_rfl) | (as_aux_lemma => kernel_rfl))
theorem namedPutSquare : Try.checked.prog.funcNamed Rows.fnExactPutSquareRow.func = some 13 := by kernel_rfl
theorem wrapPutSquare : Try.f13.isWrapper Try.checked.prog Rows.fnExactPutSquareRow.wrapper Rows.fnExactPutSquareRow.mainSum := by
  unfold Func.isWrapper; first | (rw [if_pos (by decide +kernel)]; kernel_rfl) | (rw [if_neg (by decide +kernel)]; exact ⟨rfl, rfl⟩)
end Go.Proofs.Ytnnhgblgbbfmpaa
