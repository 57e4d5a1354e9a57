/- The closed facts of FnExactCutOfWord's row. -/
import Derived.Test.YtilneimiedfjnaaIo
set_option linter.all false
namespace Go.Proofs.Ytilneimiedfjnaa
set_option maxHeartbeats 4000000 in
theorem closedCutOfWord : joinedFacts Try.checked.prog 10 Try.f10 Rows.fnExactCutOfWordSpec Rows.fnExactCutOfWordRow = true := by
  unfold joinedFacts
  simp only [Bool.and_eq_true]
  repeat' apply And.intro
  all_goals (first | with_reducible exact headEnter | (rw [headMake]; kernel_rfl) | (rw [headFinal]; kernel_rfl) | (as_aux_lemma => kernel_rfl))
theorem namedCutOfWord : Try.checked.prog.funcNamed Rows.fnExactCutOfWordRow.func = some 10 := by kernel_rfl
theorem wrapCutOfWord : Try.f10.isWrapper Try.checked.prog Rows.fnExactCutOfWordRow.wrapper Rows.fnExactCutOfWordRow.mainSum := by
  unfold Func.isWrapper; first | (rw [if_pos (by decide +kernel)]; kernel_rfl) | (rw [if_neg (by decide +kernel)]; exact ⟨rfl, rfl⟩)
end Go.Proofs.Ytilneimiedfjnaa
