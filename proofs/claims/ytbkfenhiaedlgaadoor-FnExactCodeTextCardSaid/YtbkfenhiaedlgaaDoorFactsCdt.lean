/- The closed facts of FnExactCodeText's row. -/
import Derived.Test.YtbkfenhiaedlgaaDoorIo
set_option linter.all false
namespace Go.Proofs.YtbkfenhiaedlgaaDoor
set_option maxHeartbeats 4000000 in
theorem closedCodeText : joinedFacts Tryd.checked.prog 5 Tryd.f5 Rows.fnExactCodeTextSpec Rows.fnExactCodeTextRow = true := by
  unfold joinedFacts
  simp only [Bool.and_eq_true]
  repeat' apply And.intro
  all_goals (first | with_reducible exact headEnter | (rw [headMake]; kernel_rfl) | (rw [headFinal]; kernel_rfl) | (as_aux_lemma => kernel_rfl))
theorem namedCodeText : Tryd.checked.prog.funcNamed Rows.fnExactCodeTextRow.func = some 5 := by kernel_rfl
theorem wrapCodeText : Tryd.f5.isWrapper Tryd.checked.prog Rows.fnExactCodeTextRow.wrapper Rows.fnExactCodeTextRow.mainSum := by
  unfold Func.isWrapper; first | (rw [if_pos (by decide +kernel)]; kernel_rfl) | (rw [if_neg (by decide +kernel)]; exact ⟨rfl, rfl⟩)
end Go.Proofs.YtbkfenhiaedlgaaDoor
