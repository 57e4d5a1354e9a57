/- The closed facts of FnExactFirstDesk's row. -/
import Derived.Test.YtbkfenhiaedlgaaDoorIo
set_option linter.all false
namespace Go.Proofs.YtbkfenhiaedlgaaDoor
set_option maxHeartbeats 4000000 in
theorem closedFirstDesk : joinedFacts Tryd.checked.prog 10 Tryd.f10 Rows.fnExactFirstDeskSpec Rows.fnExactFirstDeskRow = true := by
  unfold joinedFacts
  simp only [Bool.and_eq_true]
  repeat' apply And.intro
  all_goals (first | with_reducible exact headEnter | (rw [headMake]; kernel_rfl) | (rw [headFinal]; kernel_rfl) | (as_aux_lemma => kernel_rfl))
theorem namedFirstDesk : Tryd.checked.prog.funcNamed Rows.fnExactFirstDeskRow.func = some 10 := by kernel_rfl
theorem wrapFirstDesk : Tryd.f10.isWrapper Tryd.checked.prog Rows.fnExactFirstDeskRow.wrapper Rows.fnExactFirstDeskRow.mainSum := by
  unfold Func.isWrapper; first | (rw [if_pos (by decide +kernel)]; kernel_rfl) | (rw [if_neg (by decide +kernel)]; exact ⟨rfl, rfl⟩)
end Go.Proofs.YtbkfenhiaedlgaaDoor
