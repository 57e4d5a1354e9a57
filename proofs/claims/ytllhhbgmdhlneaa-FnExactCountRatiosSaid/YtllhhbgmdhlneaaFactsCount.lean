/- The closed facts of FnExactCountRatios's row. -/
import Derived.Test.YtllhhbgmdhlneaaIo
namespace Go.Proofs.Ytllhhbgmdhlneaa
set_option maxHeartbeats 4000000 in
theorem closedCountRatios : joinedFacts Try.checked.prog 12 Try.f12 Rows.fnExactCountRatiosSpec Rows.fnExactCountRatiosRow = true := by
  unfold joinedFacts
  simp only [Bool.and_eq_true]
  repeat' apply And.intro
  all_goals (first | with_reducible exact headEnter | (rw [headMake]; kernel_rfl) | (rw [headFinal]; kernel_rfl) | (as_aux_lemma => kernel_rfl))
theorem namedCountRatios : Try.checked.prog.funcNamed Rows.fnExactCountRatiosRow.func = some 12 := by kernel_rfl
theorem wrapCountRatios : Try.f12.isWrapper Try.checked.prog Rows.fnExactCountRatiosRow.wrapper Rows.fnExactCountRatiosRow.mainSum := by
  unfold Func.isWrapper; first | (rw [if_pos (by decide +kernel)]; kernel_rfl) | (rw [if_neg (by decide +kernel)]; exact ⟨rfl, rfl⟩)
end Go.Proofs.Ytllhhbgmdhlneaa
