/- The closed facts of FnExactCutOf's row. -/
import Derived.Test.YtgghkimjminbaaaIo
set_option linter.all false
namespace Go.Proofs.Ytgghkimjminbaaa
set_option maxHeartbeats 4000000 in
theorem closedCutOf : joinedFacts Try.checked.prog 6 Try.f6 Rows.fnExactCutOfSpec Rows.fnExactCutOfRow = true := by
  unfold joinedFacts
  simp only [Bool.and_eq_true]
  repeat' apply And.intro
  all_goals (first | with_reducible exact headEnter | (rw [headMake]; kernel_rfl) | (rw [headFinal]; kernel_rfl) | (as_aux_lemma => kernel_rfl))
theorem namedCutOf : Try.checked.prog.funcNamed Rows.fnExactCutOfRow.func = some 6 := by kernel_rfl
theorem wrapCutOf : Try.f6.isWrapper Try.checked.prog Rows.fnExactCutOfRow.wrapper Rows.fnExactCutOfRow.mainSum := by
  unfold Func.isWrapper; first | (rw [if_pos (by decide +kernel)]; kernel_rfl) | (rw [if_neg (by decide +kernel)]; exact ⟨rfl, rfl⟩)
end Go.Proofs.Ytgghkimjminbaaa
