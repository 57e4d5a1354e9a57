/- The closed facts of FnExactSolutions's row. -/
import Derived.Test.YtpbghalljfcaoaaGreatIo
set_option linter.all false
namespace Go.Proofs.YtpbghalljfcaoaaGreat
set_option maxHeartbeats 4000000 in
theorem closedSolutions : joinedFacts Tryz.checked.prog 3 Tryz.f3 Rows.fnExactSolutionsSpec Rows.fnExactSolutionsRow = true := by
  unfold joinedFacts
  simp only [Bool.and_eq_true]
  repeat' apply And.intro
  all_goals (first | with_reducible exact headEnter | (rw [headMake]; kernel_rfl) | (rw [headFinal]; kernel_rfl) | (as_aux_lemma => kernel_rfl))
theorem namedSolutions : Tryz.checked.prog.funcNamed Rows.fnExactSolutionsRow.func = some 3 := by kernel_rfl
theorem wrapSolutions : Tryz.f3.isWrapper Tryz.checked.prog Rows.fnExactSolutionsRow.wrapper Rows.fnExactSolutionsRow.mainSum := by
  unfold Func.isWrapper; first | (rw [if_pos (by decide +kernel)]; kernel_rfl) | (rw [if_neg (by decide +kernel)]; exact ⟨rfl, rfl⟩)
end Go.Proofs.YtpbghalljfcaoaaGreat
