/- The closed facts of FnExactCompareCodes's row. -/
import Derived.Test.YtmjdmedlkcmgiaaIo
set_option linter.all false
namespace Go.Proofs.Ytmjdmedlkcmgiaa
set_option maxHeartbeats 4000000 in
theorem closedCompareCodes : joinedFacts Try.checked.prog 11 Try.f11 Rows.fnExactCompareCodesSpec Rows.fnExactCompareCodesRow = true := by
  unfold joinedFacts
  simp only [Bool.and_eq_true]
  repeat' apply And.intro
  all_goals (first | with_reducible exact headEnter | (rw [headMake]; kernel_rfl) | (rw [headFinal]; kernel_rfl) | (as_aux_lemma => kernel_rfl))
theorem namedCompareCodes : Try.checked.prog.funcNamed Rows.fnExactCompareCodesRow.func = some 11 := by kernel_rfl
theorem wrapCompareCodes : Try.f11.isWrapper Try.checked.prog Rows.fnExactCompareCodesRow.wrapper Rows.fnExactCompareCodesRow.mainSum := by
  unfold Func.isWrapper; first | (rw [if_pos (by decide +kernel)]; kernel_rfl) | (rw [if_neg (by decide +kernel)]; exact ⟨rfl, rfl⟩)
end Go.Proofs.Ytmjdmedlkcmgiaa
