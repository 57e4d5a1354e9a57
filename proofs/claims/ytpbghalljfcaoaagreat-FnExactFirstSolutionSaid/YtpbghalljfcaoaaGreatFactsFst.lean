/- The closed facts of FnExactFirstSolution's row. -/
import Derived.Test.YtpbghalljfcaoaaGreatIo
set_option linter.all false
namespace Go.Proofs.YtpbghalljfcaoaaGreat
set_option maxHeartbeats 4000000 in
theorem closedFirstSolution : joinedFacts Tryz.checked.prog 5 Tryz.f5 Rows.fnExactFirstSolutionSpec Rows.fnExactFirstSolutionRow = true := by
  unfold joinedFacts
  simp only [Bool.and_eq_true]
  repeat' apply And.intro
  all_goals (first | with_reducible exact headEnter | (rw [headMake]; kernel_rfl) | (rw [headFinal]; kernel_rfl) | (as_aux_lemma => kernel_rfl))
theorem namedFirstSolution : Tryz.checked.prog.funcNamed Rows.fnExactFirstSolutionRow.func = some 5 := by kernel_rfl
theorem wrapFirstSolution : Tryz.f5.isWrapper Tryz.checked.prog Rows.fnExactFirstSolutionRow.wrapper Rows.fnExactFirstSolutionRow.mainSum := by
  unfold Func.isWrapper; first | (rw [if_pos (by decide +kernel)]; kernel_rfl) | (rw [if_neg (by decide +kernel)]; exact ⟨rfl, rfl⟩)
end Go.Proofs.YtpbghalljfcaoaaGreat
