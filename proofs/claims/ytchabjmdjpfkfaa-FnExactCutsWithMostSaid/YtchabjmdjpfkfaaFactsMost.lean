/- The closed facts of FnExactCutsWithMost's row. -/
import Derived.Test.YtchabjmdjpfkfaaIo
set_option linter.all false
namespace Go.Proofs.Ytchabjmdjpfkfaa
set_option maxHeartbeats 4000000 in
theorem closedCutsWithMost : joinedFacts Try.checked.prog 5 Try.f5 Rows.fnExactCutsWithMostSpec Rows.fnExactCutsWithMostRow = true := by
  unfold joinedFacts
  simp only [Bool.and_eq_true]
  repeat' apply And.intro
  all_goals (first | with_reducible exact headEnter | (rw [headMake]; kernel_rfl) | (rw [headFinal]; kernel_rfl) | (as_aux_lemma => kernel_rfl))
theorem namedCutsWithMost : Try.checked.prog.funcNamed Rows.fnExactCutsWithMostRow.func = some 5 := by kernel_rfl
theorem wrapCutsWithMost : Try.f5.isWrapper Try.checked.prog Rows.fnExactCutsWithMostRow.wrapper Rows.fnExactCutsWithMostRow.mainSum := by
  unfold Func.isWrapper; first | (rw [if_pos (by decide +kernel)]; kernel_rfl) | (rw [if_neg (by decide +kernel)]; exact ⟨rfl, rfl⟩)
end Go.Proofs.Ytchabjmdjpfkfaa
