/- The closed facts of FnExactBackNet's row. -/
import Derived.Test.YtllhhbgmdhlneaaIo
namespace Go.Proofs.Ytllhhbgmdhlneaa
set_option maxHeartbeats 4000000 in
theorem closedBackNet : joinedFacts Try.checked.prog 10 Try.f10 Rows.fnExactBackNetSpec Rows.fnExactBackNetRow = true := by
  unfold joinedFacts
  simp only [Bool.and_eq_true]
  repeat' apply And.intro
  all_goals (first | with_reducible exact headEnter | (rw [headMake]; kernel_rfl) | (rw [headFinal]; kernel_rfl) | (as_aux_lemma => kernel_rfl))
theorem namedBackNet : Try.checked.prog.funcNamed Rows.fnExactBackNetRow.func = some 10 := by kernel_rfl
theorem wrapBackNet : Try.f10.isWrapper Try.checked.prog Rows.fnExactBackNetRow.wrapper Rows.fnExactBackNetRow.mainSum := by
  unfold Func.isWrapper; first | (rw [if_pos (by decide +kernel)]; kernel_rfl) | (rw [if_neg (by decide +kernel)]; exact ⟨rfl, rfl⟩)
end Go.Proofs.Ytllhhbgmdhlneaa
