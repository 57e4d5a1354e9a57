/- The closed facts of FnExactLinesDown's row. -/
import Derived.Test.YtgajpghlbjaciaaIo
namespace Go.Proofs.Ytgajpghlbjaciaa
set_option maxHeartbeats 4000000 in
theorem closedLinesDown : joinedFacts Try.checked.prog 11 Try.f11 Rows.fnExactLinesDownSpec Rows.fnExactLinesDownRow = true := by
  unfold joinedFacts
  simp only [Bool.and_eq_true]
  repeat' apply And.intro
  all_goals (first | with_reducible exact headEnter | (rw [headMake]; kernel_rfl) | (rw [headFinal]; kernel_rfl) | (as_aux_lemma => kernel_rfl))
theorem namedLinesDown : Try.checked.prog.funcNamed Rows.fnExactLinesDownRow.func = some 11 := by kernel_rfl
theorem wrapLinesDown : Try.f11.isWrapper Try.checked.prog Rows.fnExactLinesDownRow.wrapper Rows.fnExactLinesDownRow.mainSum := by
  unfold Func.isWrapper; first | (rw [if_pos (by decide +kernel)]; kernel_rfl) | (rw [if_neg (by decide +kernel)]; exact ⟨rfl, rfl⟩)
end Go.Proofs.Ytgajpghlbjaciaa
