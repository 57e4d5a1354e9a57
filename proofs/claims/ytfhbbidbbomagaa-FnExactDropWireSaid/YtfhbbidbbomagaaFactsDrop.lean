/- The closed facts of FnExactDropWire's row. -/
import Derived.Test.YtfhbbidbbomagaaIo
namespace Go.Proofs.Ytfhbbidbbomagaa
set_option maxHeartbeats 4000000 in
theorem closedDropWire : joinedFacts Try.checked.prog 3 Try.f3 Rows.fnExactDropWireSpec Rows.fnExactDropWireRow = true := by
  unfold joinedFacts
  simp only [Bool.and_eq_true]
  repeat' apply And.intro
  all_goals (first | with_reducible exact headEnter | (rw [headMake]; kernel_rfl) | (rw [headFinal]; kernel_rfl) | (as_aux_lemma => kernel_rfl))
theorem namedDropWire : Try.checked.prog.funcNamed Rows.fnExactDropWireRow.func = some 3 := by kernel_rfl
theorem wrapDropWire : Try.f3.isWrapper Try.checked.prog Rows.fnExactDropWireRow.wrapper Rows.fnExactDropWireRow.mainSum := by
  unfold Func.isWrapper; first | (rw [if_pos (by decide +kernel)]; kernel_rfl) | (rw [if_neg (by decide +kernel)]; exact ⟨rfl, rfl⟩)
end Go.Proofs.Ytfhbbidbbomagaa
