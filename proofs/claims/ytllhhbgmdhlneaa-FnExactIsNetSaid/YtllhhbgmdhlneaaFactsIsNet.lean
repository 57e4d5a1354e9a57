/- The closed facts of FnExactIsNet's row. -/
import Derived.Test.YtllhhbgmdhlneaaIo
namespace Go.Proofs.Ytllhhbgmdhlneaa
set_option maxHeartbeats 4000000 in
theorem closedIsNet : joinedFacts Try.checked.prog 11 Try.f11 Rows.fnExactIsNetSpec Rows.fnExactIsNetRow = true := by
  unfold joinedFacts
  simp only [Bool.and_eq_true]
  repeat' apply And.intro
  all_goals (first | with_reducible exact headEnter | (rw [headMake]; kernel_rfl) | (rw [headFinal]; kernel_rfl) | (as_aux_lemma => kernel_rfl))
theorem namedIsNet : Try.checked.prog.funcNamed Rows.fnExactIsNetRow.func = some 11 := by kernel_rfl
theorem wrapIsNet : Try.f11.isWrapper Try.checked.prog Rows.fnExactIsNetRow.wrapper Rows.fnExactIsNetRow.mainSum := by
  unfold Func.isWrapper; first | (rw [if_pos (by decide +kernel)]; kernel_rfl) | (rw [if_neg (by decide +kernel)]; exact ⟨rfl, rfl⟩)
end Go.Proofs.Ytllhhbgmdhlneaa
