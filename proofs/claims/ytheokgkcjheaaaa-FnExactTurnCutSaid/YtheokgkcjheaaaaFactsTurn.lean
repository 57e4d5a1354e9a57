/- The closed facts of FnExactTurnCut's row. -/
import Derived.Test.YtheokgkcjheaaaaIo
namespace Go.Proofs.Ytheokgkcjheaaaa
set_option maxHeartbeats 4000000 in
theorem closedTurnCut : joinedFacts Try.checked.prog 8 Try.f8 Rows.fnExactTurnCutSpec Rows.fnExactTurnCutRow = true := by
  unfold joinedFacts
  simp only [Bool.and_eq_true]
  repeat' apply And.intro
  all_goals (first | with_reducible exact headEnter | (rw [headMake]; kernel_rfl) | (rw [headFinal]; kernel_rfl) | (as_aux_lemma => kernel_rfl))
theorem namedTurnCut : Try.checked.prog.funcNamed Rows.fnExactTurnCutRow.func = some 8 := by kernel_rfl
theorem wrapTurnCut : Try.f8.isWrapper Try.checked.prog Rows.fnExactTurnCutRow.wrapper Rows.fnExactTurnCutRow.mainSum := by
  unfold Func.isWrapper; first | (rw [if_pos (by decide +kernel)]; kernel_rfl) | (rw [if_neg (by decide +kernel)]; exact ⟨rfl, rfl⟩)
end Go.Proofs.Ytheokgkcjheaaaa
