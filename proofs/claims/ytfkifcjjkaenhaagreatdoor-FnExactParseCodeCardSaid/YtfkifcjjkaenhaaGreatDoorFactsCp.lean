/- The closed facts of FnExactParseCode's row. -/
import Derived.Test.YtfkifcjjkaenhaaGreatDoorIo
set_option linter.all false
namespace Go.Proofs.YtfkifcjjkaenhaaGreatDoor
set_option maxHeartbeats 4000000 in
theorem closedParseCode : joinedFacts Tryz.checked.prog 3 Tryz.f3 Rows.fnExactParseCodeSpec Rows.fnExactParseCodeRow = true := by
  unfold joinedFacts
  simp only [Bool.and_eq_true]
  repeat' apply And.intro
  all_goals (first | with_reducible exact headEnter | (rw [headMake]; kernel_rfl) | (rw [headFinal]; kernel_rfl) | (as_aux_lemma => kernel_rfl))
theorem namedParseCode : Tryz.checked.prog.funcNamed Rows.fnExactParseCodeRow.func = some 3 := by kernel_rfl
theorem wrapParseCode : Tryz.f3.isWrapper Tryz.checked.prog Rows.fnExactParseCodeRow.wrapper Rows.fnExactParseCodeRow.mainSum := by
  unfold Func.isWrapper; first | (rw [if_pos (by decide +kernel)]; kernel_rfl) | (rw [if_neg (by decide +kernel)]; exact ⟨rfl, rfl⟩)
end Go.Proofs.YtfkifcjjkaenhaaGreatDoor
