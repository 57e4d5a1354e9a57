/- The closed facts of FnExactCountSolutions's row. -/
import Derived.Test.YtpbghalljfcaoaaGreatIo
set_option linter.all false
namespace Go.Proofs.YtpbghalljfcaoaaGreat
set_option maxHeartbeats 4000000 in
theorem closedCountSolutions : joinedFacts Tryz.checked.prog 4 Tryz.f4 Rows.fnExactCountSolutionsSpec Rows.fnExactCountSolutionsRow = true := by
  unfold joinedFacts
  simp only [Bool.and_eq_true]
  repeat' apply And.intro
  all_goals (first | with_reducible exact headEnter | (rw [headMake]; kernel_rfl) | (rw [headFinal]; kernel_rfl) | (as_aux_lemma => kernel_rfl))
theorem namedCountSolutions : Tryz.checked.prog.funcNamed Rows.fnExactCountSolutionsRow.func = some 4 := by kernel_rfl
theorem wrapCountSolutions : Tryz.f4.isWrapper Tryz.checked.prog Rows.fnExactCountSolutionsRow.wrapper Rows.fnExactCountSolutionsRow.mainSum := by
  unfold Func.isWrapper; first | (rw [if_pos (by decide +kernel)]; kernel_rfl) | (rw [if_neg (by decide +kernel)]; exact ⟨rfl, rfl⟩)
end Go.Proofs.YtpbghalljfcaoaaGreat
