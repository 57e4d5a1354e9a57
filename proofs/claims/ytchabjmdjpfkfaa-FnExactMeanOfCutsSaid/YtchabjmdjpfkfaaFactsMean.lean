/- The closed facts of FnExactMeanOfCuts's row. -/
import Derived.Test.YtchabjmdjpfkfaaIo
set_option linter.all false
namespace Go.Proofs.Ytchabjmdjpfkfaa
set_option maxHeartbeats 4000000 in
theorem closedMeanOfCuts : joinedFacts Try.checked.prog 6 Try.f6 Rows.fnExactMeanOfCutsSpec Rows.fnExactMeanOfCutsRow = true := by
  unfold joinedFacts
  simp only [Bool.and_eq_true]
  repeat' apply And.intro
  all_goals (first | with_reducible exact headEnter | (rw [headMake]; kernel_rfl) | (rw [headFinal]; kernel_rfl) | (as_aux_lemma => kernel_rfl))
theorem namedMeanOfCuts : Try.checked.prog.funcNamed Rows.fnExactMeanOfCutsRow.func = some 6 := by kernel_rfl
theorem wrapMeanOfCuts : Try.f6.isWrapper Try.checked.prog Rows.fnExactMeanOfCutsRow.wrapper Rows.fnExactMeanOfCutsRow.mainSum := by
  unfold Func.isWrapper; first | (rw [if_pos (by decide +kernel)]; kernel_rfl) | (rw [if_neg (by decide +kernel)]; exact ⟨rfl, rfl⟩)
end Go.Proofs.Ytchabjmdjpfkfaa
