/- The closed facts of FnExactParseNet's row. -/
import Derived.Test.YtbkfenhiaedlgaaDoorIo
set_option linter.all false
namespace Go.Proofs.YtbkfenhiaedlgaaDoor
set_option maxHeartbeats 4000000 in
theorem closedParseNet : joinedFacts Tryd.checked.prog 7 Tryd.f7 Rows.fnExactParseNetSpec Rows.fnExactParseNetRow = true := by
  unfold joinedFacts
  simp only [Bool.and_eq_true]
  repeat' apply And.intro
  all_goals (first | with_reducible exact headEnter | (rw [headMake]; kernel_rfl) | (rw [headFinal]; kernel_rfl) | (as_aux_lemma => kernel_rfl))
theorem namedParseNet : Tryd.checked.prog.funcNamed Rows.fnExactParseNetRow.func = some 7 := by kernel_rfl
theorem wrapParseNet : Tryd.f7.isWrapper Tryd.checked.prog Rows.fnExactParseNetRow.wrapper Rows.fnExactParseNetRow.mainSum := by
  unfold Func.isWrapper; first | (rw [if_pos (by decide +kernel)]; kernel_rfl) | (rw [if_neg (by decide +kernel)]; exact ⟨rfl, rfl⟩)
end Go.Proofs.YtbkfenhiaedlgaaDoor
