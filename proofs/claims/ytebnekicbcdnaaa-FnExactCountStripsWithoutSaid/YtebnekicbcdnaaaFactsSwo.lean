/- The closed facts of FnExactCountStripsWithout's row. -/
import Derived.Test.YtebnekicbcdnaaaIo
set_option linter.all false
namespace Go.Proofs.Ytebnekicbcdnaaa
set_option maxHeartbeats 4000000 in
theorem closedCountStripsWithout : joinedFacts Try.checked.prog 5 Try.f5 Rows.fnExactCountStripsWithoutSpec Rows.fnExactCountStripsWithoutRow = true := by
  unfold joinedFacts
  simp only [Bool.and_eq_true]
  repeat' apply And.intro
  all_goals (first | with_reducible exact headEnter | (rw [headMake]; kernel_rfl) | (rw [headFinal]; kernel_rfl) | (as_aux_lemma => kernel_rfl))
theorem namedCountStripsWithout : Try.checked.prog.funcNamed Rows.fnExactCountStripsWithoutRow.func = some 5 := by kernel_rfl
theorem wrapCountStripsWithout : Try.f5.isWrapper Try.checked.prog Rows.fnExactCountStripsWithoutRow.wrapper Rows.fnExactCountStripsWithoutRow.mainSum := by
  unfold Func.isWrapper; first | (rw [if_pos (by decide +kernel)]; kernel_rfl) | (rw [if_neg (by decide +kernel)]; exact ⟨rfl, rfl⟩)
end Go.Proofs.Ytebnekicbcdnaaa
