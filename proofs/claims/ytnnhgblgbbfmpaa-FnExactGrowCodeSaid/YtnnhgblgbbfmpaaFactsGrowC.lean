/- The closed facts of FnExactGrowCode's row. -/
import Derived.Test.YtnnhgblgbbfmpaaIo
set_option linter.all false
namespace Go.Proofs.Ytnnhgblgbbfmpaa
set_option maxHeartbeats 4000000 in
theorem closedGrowCode : joinedFacts Try.checked.prog 7 Try.f7 Rows.fnExactGrowCodeSpec Rows.fnExactGrowCodeRow = true := by
  unfold joinedFacts
  simp only [Bool.and_eq_true]
  repeat' apply And.intro
  all_goals (first | with_reducible exact headEnter | (rw [headMake]; kernel_rfl) | (rw [headFinal]; kernel_rfl) | (as_aux_lemma => kernel_rfl))
theorem namedGrowCode : Try.checked.prog.funcNamed Rows.fnExactGrowCodeRow.func = some 7 := by kernel_rfl
theorem wrapGrowCode : Try.f7.isWrapper Try.checked.prog Rows.fnExactGrowCodeRow.wrapper Rows.fnExactGrowCodeRow.mainSum := by
  unfold Func.isWrapper; first | (rw [if_pos (by decide +kernel)]; kernel_rfl) | (rw [if_neg (by decide +kernel)]; exact ⟨rfl, rfl⟩)
end Go.Proofs.Ytnnhgblgbbfmpaa
