/- The closed facts of FnExactCutOf's row. -/
import Derived.Test.YtheokgkcjheaaaaIo
namespace Go.Proofs.Ytheokgkcjheaaaa
set_option maxHeartbeats 4000000 in
theorem closedCutOf : joinedFacts Try.checked.prog 3 Try.f3 Rows.fnExactCutOfSpec Rows.fnExactCutOfRow = true := by
  unfold joinedFacts
  simp only [Bool.and_eq_true]
  repeat' apply And.intro
  all_goals (first | with_reducible exact headEnter | (rw [headMake]; kernel_rfl) | (rw [headFinal]; kernel_rfl) | (as_aux_lemma => kernel_rfl))
theorem namedCutOf : Try.checked.prog.funcNamed Rows.fnExactCutOfRow.func = some 3 := by kernel_rfl
theorem wrapCutOf : Try.f3.isWrapper Try.checked.prog Rows.fnExactCutOfRow.wrapper Rows.fnExactCutOfRow.mainSum := by
  unfold Func.isWrapper; first | (rw [if_pos (by decide +kernel)]; kernel_rfl) | (rw [if_neg (by decide +kernel)]; exact ⟨rfl, rfl⟩)
end Go.Proofs.Ytheokgkcjheaaaa
