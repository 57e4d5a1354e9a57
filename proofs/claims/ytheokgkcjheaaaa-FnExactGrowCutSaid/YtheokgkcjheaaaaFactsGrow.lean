/- The closed facts of FnExactGrowCut's row. -/
import Derived.Test.YtheokgkcjheaaaaIo
namespace Go.Proofs.Ytheokgkcjheaaaa
set_option maxHeartbeats 4000000 in
theorem closedGrowCut : joinedFacts Try.checked.prog 10 Try.f10 Rows.fnExactGrowCutSpec Rows.fnExactGrowCutRow = true := by
  unfold joinedFacts
  simp only [Bool.and_eq_true]
  repeat' apply And.intro
  all_goals (first | with_reducible exact headEnter | (rw [headMake]; kernel_rfl) | (rw [headFinal]; kernel_rfl) | (as_aux_lemma => kernel_rfl))
theorem namedGrowCut : Try.checked.prog.funcNamed Rows.fnExactGrowCutRow.func = some 10 := by kernel_rfl
theorem wrapGrowCut : Try.f10.isWrapper Try.checked.prog Rows.fnExactGrowCutRow.wrapper Rows.fnExactGrowCutRow.mainSum := by
  unfold Func.isWrapper; first | (rw [if_pos (by decide +kernel)]; kernel_rfl) | (rw [if_neg (by decide +kernel)]; exact ⟨rfl, rfl⟩)
end Go.Proofs.Ytheokgkcjheaaaa
