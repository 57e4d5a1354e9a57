/- The closed facts of FnExactCountCuts's row. -/
import Derived.Test.YtchabjmdjpfkfaaIo
set_option linter.all false
namespace Go.Proofs.Ytchabjmdjpfkfaa
set_option maxHeartbeats 4000000 in
theorem closedCountCuts : joinedFacts Try.checked.prog 3 Try.f3 Rows.fnExactCountCutsSpec Rows.fnExactCountCutsRow = true := by
  unfold joinedFacts
  simp only [Bool.and_eq_true]
  repeat' apply And.intro
  all_goals (first | with_reducible exact headEnter | (rw [headMake]; kernel_rfl) | (rw [headFinal]; kernel_rfl) | (as_aux_lemma => kernel_rfl))
theorem namedCountCuts : Try.checked.prog.funcNamed Rows.fnExactCountCutsRow.func = some 3 := by kernel_rfl
theorem wrapCountCuts : Try.f3.isWrapper Try.checked.prog Rows.fnExactCountCutsRow.wrapper Rows.fnExactCountCutsRow.mainSum := by
  unfold Func.isWrapper; first | (rw [if_pos (by decide +kernel)]; kernel_rfl) | (rw [if_neg (by decide +kernel)]; exact ⟨rfl, rfl⟩)
end Go.Proofs.Ytchabjmdjpfkfaa
