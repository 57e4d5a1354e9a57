/- The closed facts of FnExactTakePart's row. -/
import Derived.Test.YtilneimiedfjnaaIo
set_option linter.all false
namespace Go.Proofs.Ytilneimiedfjnaa
set_option maxHeartbeats 4000000 in
theorem closedTakePart : joinedFacts Try.checked.prog 3 Try.f3 Rows.fnExactTakePartSpec Rows.fnExactTakePartRow = true := by
  unfold joinedFacts
  simp only [Bool.and_eq_true]
  repeat' apply And.intro
  all_goals (first | with_reducible exact headEnter | (rw [headMake]; kernel_rfl) | (rw [headFinal]; kernel_rfl) | (as_aux_lemma => kernel_rfl))
theorem namedTakePart : Try.checked.prog.funcNamed Rows.fnExactTakePartRow.func = some 3 := by kernel_rfl
theorem wrapTakePart : Try.f3.isWrapper Try.checked.prog Rows.fnExactTakePartRow.wrapper Rows.fnExactTakePartRow.mainSum := by
  unfold Func.isWrapper; first | (rw [if_pos (by decide +kernel)]; kernel_rfl) | (rw [if_neg (by decide +kernel)]; exact ⟨rfl, rfl⟩)
end Go.Proofs.Ytilneimiedfjnaa
