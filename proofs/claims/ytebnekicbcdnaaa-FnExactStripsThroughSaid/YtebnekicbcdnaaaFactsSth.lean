/- The closed facts of FnExactStripsThrough's row. -/
import Derived.Test.YtebnekicbcdnaaaIo
set_option linter.all false
namespace Go.Proofs.Ytebnekicbcdnaaa
set_option maxHeartbeats 4000000 in
theorem closedStripsThrough : joinedFacts Try.checked.prog 14 Try.f14 Rows.fnExactStripsThroughSpec Rows.fnExactStripsThroughRow = true := by
  unfold joinedFacts
  simp only [Bool.and_eq_true]
  repeat' apply And.intro
  all_goals (first | with_reducible exact headEnter | (rw [headMake]; kernel_rfl) | (rw [headFinal]; kernel_rfl) | (as_aux_lemma => kernel_rfl))
theorem namedStripsThrough : Try.checked.prog.funcNamed Rows.fnExactStripsThroughRow.func = some 14 := by kernel_rfl
theorem wrapStripsThrough : Try.f14.isWrapper Try.checked.prog Rows.fnExactStripsThroughRow.wrapper Rows.fnExactStripsThroughRow.mainSum := by
  unfold Func.isWrapper; first | (rw [if_pos (by decide +kernel)]; kernel_rfl) | (rw [if_neg (by decide +kernel)]; exact ⟨rfl, rfl⟩)
end Go.Proofs.Ytebnekicbcdnaaa
