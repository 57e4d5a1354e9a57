/- The closed facts of FnExactFewestByLines's row. -/
import Derived.Test.YtnhemdcbiaonbaaIo
namespace Go.Proofs.Ytnhemdcbiaonbaa
set_option maxHeartbeats 4000000 in
theorem closedFewestByLines : joinedFacts Try.checked.prog 8 Try.f8 Rows.fnExactFewestByLinesSpec Rows.fnExactFewestByLinesRow = true := by
  unfold joinedFacts
  simp only [Bool.and_eq_true]
  repeat' apply And.intro
  all_goals (first | with_reducible exact headEnter | (rw [headMake]; kernel_rfl) | (rw [headFinal]; kernel_rfl) | (as_aux_lemma => kernel_rfl))
theorem namedFewestByLines : Try.checked.prog.funcNamed Rows.fnExactFewestByLinesRow.func = some 8 := by kernel_rfl
theorem wrapFewestByLines : Try.f8.isWrapper Try.checked.prog Rows.fnExactFewestByLinesRow.wrapper Rows.fnExactFewestByLinesRow.mainSum := by
  unfold Func.isWrapper; first | (rw [if_pos (by decide +kernel)]; kernel_rfl) | (rw [if_neg (by decide +kernel)]; exact ⟨rfl, rfl⟩)
end Go.Proofs.Ytnhemdcbiaonbaa
