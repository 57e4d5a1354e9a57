/- The closed facts of FnExactNetOfCut's row. -/
import Derived.Test.YtgnlnooeapoekaaIo
namespace Go.Proofs.Ytgnlnooeapoekaa
set_option maxHeartbeats 4000000 in
theorem closedLinesOf : joinedFacts Try.checked.prog 7 Try.f7 Rows.fnExactNetOfCutSpec Rows.fnExactNetOfCutRow = true := by
  unfold joinedFacts
  simp only [Bool.and_eq_true]
  repeat' apply And.intro
  all_goals (first | with_reducible exact headEnter | (rw [headMake]; kernel_rfl) | (rw [headFinal]; kernel_rfl) | (as_aux_lemma => kernel_rfl))
theorem namedLinesOf : Try.checked.prog.funcNamed Rows.fnExactNetOfCutRow.func = some 7 := by kernel_rfl
theorem wrapLinesOf : Try.f7.isWrapper Try.checked.prog Rows.fnExactNetOfCutRow.wrapper Rows.fnExactNetOfCutRow.mainSum := by
  unfold Func.isWrapper; first | (rw [if_pos (by decide +kernel)]; kernel_rfl) | (rw [if_neg (by decide +kernel)]; exact ⟨rfl, rfl⟩)
end Go.Proofs.Ytgnlnooeapoekaa
