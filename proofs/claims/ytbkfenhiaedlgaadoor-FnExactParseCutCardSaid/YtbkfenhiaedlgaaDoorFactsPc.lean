/- The closed facts of FnExactParseCut's row. -/
import Derived.Test.YtbkfenhiaedlgaaDoorIo
set_option linter.all false
namespace Go.Proofs.YtbkfenhiaedlgaaDoor
set_option maxHeartbeats 4000000 in
theorem closedParseCut : joinedFacts Tryd.checked.prog 4 Tryd.f4 Rows.fnExactParseCutSpec Rows.fnExactParseCutRow = true := by
  unfold joinedFacts
  simp only [Bool.and_eq_true]
  repeat' apply And.intro
  all_goals (first | with_reducible exact headEnter | (rw [headMake]; kernel_rfl) | (rw [headFinal]; kernel_rfl) | (as_aux_lemma => kernel_rfl))
theorem namedParseCut : Tryd.checked.prog.funcNamed Rows.fnExactParseCutRow.func = some 4 := by kernel_rfl
theorem wrapParseCut : Tryd.f4.isWrapper Tryd.checked.prog Rows.fnExactParseCutRow.wrapper Rows.fnExactParseCutRow.mainSum := by
  unfold Func.isWrapper; first | (rw [if_pos (by decide +kernel)]; kernel_rfl) | (rw [if_neg (by decide +kernel)]; exact ⟨rfl, rfl⟩)
end Go.Proofs.YtbkfenhiaedlgaaDoor
