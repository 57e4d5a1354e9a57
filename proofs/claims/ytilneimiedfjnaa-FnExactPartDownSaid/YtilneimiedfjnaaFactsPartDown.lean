/- The closed facts of FnExactPartDown's row. -/
import Derived.Test.YtilneimiedfjnaaIo
set_option linter.all false
namespace Go.Proofs.Ytilneimiedfjnaa
set_option maxHeartbeats 4000000 in
theorem closedPartDown : joinedFacts Try.checked.prog 8 Try.f8 Rows.fnExactPartDownSpec Rows.fnExactPartDownRow = true := by
  unfold joinedFacts
  simp only [Bool.and_eq_true]
  repeat' apply And.intro
  all_goals (first | with_reducible exact headEnter | (rw [headMake]; kernel_rfl) | (rw [headFinal]; kernel_rfl) | (as_aux_lemma => kernel_rfl))
theorem namedPartDown : Try.checked.prog.funcNamed Rows.fnExactPartDownRow.func = some 8 := by kernel_rfl
theorem wrapPartDown : Try.f8.isWrapper Try.checked.prog Rows.fnExactPartDownRow.wrapper Rows.fnExactPartDownRow.mainSum := by
  unfold Func.isWrapper; first | (rw [if_pos (by decide +kernel)]; kernel_rfl) | (rw [if_neg (by decide +kernel)]; exact ⟨rfl, rfl⟩)
end Go.Proofs.Ytilneimiedfjnaa
