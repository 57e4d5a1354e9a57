/- The closed facts of FnExactCountStrips's row. -/
import Derived.Test.YtebnekicbcdnaaaIo
set_option linter.all false
namespace Go.Proofs.Ytebnekicbcdnaaa
set_option maxHeartbeats 4000000 in
theorem closedCountStrips : joinedFacts Try.checked.prog 3 Try.f3 Rows.fnExactCountStripsSpec Rows.fnExactCountStripsRow = true := by
  unfold joinedFacts
  simp only [Bool.and_eq_true]
  repeat' apply And.intro
  all_goals (first | with_reducible exact headEnter | (rw [headMake]; kernel_rfl) | (rw [headFinal]; kernel_rfl) | (as_aux_lemma => kernel_rfl))
theorem namedCountStrips : Try.checked.prog.funcNamed Rows.fnExactCountStripsRow.func = some 3 := by kernel_rfl
theorem wrapCountStrips : Try.f3.isWrapper Try.checked.prog Rows.fnExactCountStripsRow.wrapper Rows.fnExactCountStripsRow.mainSum := by
  unfold Func.isWrapper; first | (rw [if_pos (by decide +kernel)]; kernel_rfl) | (rw [if_neg (by decide +kernel)]; exact ⟨rfl, rfl⟩)
end Go.Proofs.Ytebnekicbcdnaaa
