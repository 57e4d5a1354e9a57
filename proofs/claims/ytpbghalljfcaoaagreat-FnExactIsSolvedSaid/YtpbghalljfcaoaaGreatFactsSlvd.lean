/- The closed facts of FnExactIsSolved's row. -/
import Derived.Test.YtpbghalljfcaoaaGreatIo
set_option linter.all false
namespace Go.Proofs.YtpbghalljfcaoaaGreat
set_option maxHeartbeats 4000000 in
theorem closedIsSolved : joinedFacts Tryz.checked.prog 6 Tryz.f6 Rows.fnExactIsSolvedSpec Rows.fnExactIsSolvedRow = true := by
  unfold joinedFacts
  simp only [Bool.and_eq_true]
  repeat' apply And.intro
  all_goals (first | with_reducible exact headEnter | (rw [headMake]; kernel_rfl) | (rw [headFinal]; kernel_rfl) | (as_aux_lemma => kernel_rfl))
theorem namedIsSolved : Tryz.checked.prog.funcNamed Rows.fnExactIsSolvedRow.func = some 6 := by kernel_rfl
theorem wrapIsSolved : Tryz.f6.isWrapper Tryz.checked.prog Rows.fnExactIsSolvedRow.wrapper Rows.fnExactIsSolvedRow.mainSum := by
  unfold Func.isWrapper; first | (rw [if_pos (by decide +kernel)]; kernel_rfl) | (rw [if_neg (by decide +kernel)]; exact ⟨rfl, rfl⟩)
end Go.Proofs.YtpbghalljfcaoaaGreat
