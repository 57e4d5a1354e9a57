/- The closed facts of FnExactAddWire's row. -/
import Derived.Test.YtllhhbgmdhlneaaIo
namespace Go.Proofs.Ytllhhbgmdhlneaa
set_option maxHeartbeats 4000000 in
theorem closedAddWire : joinedFacts Try.checked.prog 8 Try.f8 Rows.fnExactAddWireSpec Rows.fnExactAddWireRow = true := by
  unfold joinedFacts
  simp only [Bool.and_eq_true]
  repeat' apply And.intro
  all_goals (first | with_reducible exact headEnter | (rw [headMake]; kernel_rfl) | (rw [headFinal]; kernel_rfl) | (as_aux_lemma => kernel_rfl))
theorem namedAddWire : Try.checked.prog.funcNamed Rows.fnExactAddWireRow.func = some 8 := by kernel_rfl
theorem wrapAddWire : Try.f8.isWrapper Try.checked.prog Rows.fnExactAddWireRow.wrapper Rows.fnExactAddWireRow.mainSum := by
  unfold Func.isWrapper; first | (rw [if_pos (by decide +kernel)]; kernel_rfl) | (rw [if_neg (by decide +kernel)]; exact ⟨rfl, rfl⟩)
end Go.Proofs.Ytllhhbgmdhlneaa
