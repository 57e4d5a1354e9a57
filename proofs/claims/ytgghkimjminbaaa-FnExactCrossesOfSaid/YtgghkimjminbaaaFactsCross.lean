/- The closed facts of FnExactCrossesOf's row. -/
import Derived.Test.YtgghkimjminbaaaIo
set_option linter.all false
namespace Go.Proofs.Ytgghkimjminbaaa
set_option maxHeartbeats 4000000 in
theorem closedCrossesOf : joinedFacts Try.checked.prog 13 Try.f13 Rows.fnExactCrossesOfSpec Rows.fnExactCrossesOfRow = true := by
  unfold joinedFacts
  simp only [Bool.and_eq_true]
  repeat' apply And.intro
  all_goals (first | with_reducible exact headEnter | (rw [headMake]; kernel_rfl) | (rw [headFinal]; kernel_rfl) | (as_aux_lemma => kernel_rfl))
theorem namedCrossesOf : Try.checked.prog.funcNamed Rows.fnExactCrossesOfRow.func = some 13 := by kernel_rfl
theorem wrapCrossesOf : Try.f13.isWrapper Try.checked.prog Rows.fnExactCrossesOfRow.wrapper Rows.fnExactCrossesOfRow.mainSum := by
  unfold Func.isWrapper; first | (rw [if_pos (by decide +kernel)]; kernel_rfl) | (rw [if_neg (by decide +kernel)]; exact ⟨rfl, rfl⟩)
end Go.Proofs.Ytgghkimjminbaaa
