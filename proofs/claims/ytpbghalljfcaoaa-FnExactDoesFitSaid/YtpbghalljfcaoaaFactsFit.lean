/- The closed facts of FnExactDoesFit's row. -/
import Derived.Test.YtpbghalljfcaoaaIo
set_option linter.all false
namespace Go.Proofs.Ytpbghalljfcaoaa
set_option maxHeartbeats 4000000 in
theorem closedDoesFit : joinedFacts Try.checked.prog 5 Try.f5 Rows.fnExactDoesFitSpec Rows.fnExactDoesFitRow = true := by
  unfold joinedFacts
  simp only [Bool.and_eq_true]
  repeat' apply And.intro
  all_goals (first | with_reducible exact headEnter | (rw [headMake]; kernel_rfl) | (rw [headFinal]; kernel_rfl) | (as_aux_lemma => kernel_rfl))
theorem namedDoesFit : Try.checked.prog.funcNamed Rows.fnExactDoesFitRow.func = some 5 := by kernel_rfl
theorem wrapDoesFit : Try.f5.isWrapper Try.checked.prog Rows.fnExactDoesFitRow.wrapper Rows.fnExactDoesFitRow.mainSum := by
  unfold Func.isWrapper; first | (rw [if_pos (by decide +kernel)]; kernel_rfl) | (rw [if_neg (by decide +kernel)]; exact ⟨rfl, rfl⟩)
end Go.Proofs.Ytpbghalljfcaoaa
