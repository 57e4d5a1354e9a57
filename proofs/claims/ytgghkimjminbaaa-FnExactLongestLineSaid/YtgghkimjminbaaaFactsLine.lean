/- The closed facts of FnExactLongestLine's row. -/
import Derived.Test.YtgghkimjminbaaaIo
set_option linter.all false
namespace Go.Proofs.Ytgghkimjminbaaa
set_option maxHeartbeats 4000000 in
theorem closedLongestLine : joinedFacts Try.checked.prog 14 Try.f14 Rows.fnExactLongestLineSpec Rows.fnExactLongestLineRow = true := by
  unfold joinedFacts
  simp only [Bool.and_eq_true]
  repeat' apply And.intro
  all_goals (first | with_reducible exact headEnter | (rw [headMake]; kernel_rfl) | (rw [headFinal]; kernel_rfl) | (as_aux_lemma => kernel_rfl))
theorem namedLongestLine : Try.checked.prog.funcNamed Rows.fnExactLongestLineRow.func = some 14 := by kernel_rfl
theorem wrapLongestLine : Try.f14.isWrapper Try.checked.prog Rows.fnExactLongestLineRow.wrapper Rows.fnExactLongestLineRow.mainSum := by
  unfold Func.isWrapper; first | (rw [if_pos (by decide +kernel)]; kernel_rfl) | (rw [if_neg (by decide +kernel)]; exact ⟨rfl, rfl⟩)
end Go.Proofs.Ytgghkimjminbaaa
