/- The closed facts of FnExactBestClue's row. -/
import Derived.Test.YtpbghalljfcaoaaGreatIo
set_option linter.all false
namespace Go.Proofs.YtpbghalljfcaoaaGreat
set_option maxHeartbeats 4000000 in
theorem closedBestClue : joinedFacts Tryz.checked.prog 8 Tryz.f8 Rows.fnExactBestClueSpec Rows.fnExactBestClueRow = true := by
  unfold joinedFacts
  simp only [Bool.and_eq_true]
  repeat' apply And.intro
  all_goals (first | with_reducible exact headEnter | (rw [headMake]; kernel_rfl) | (rw [headFinal]; kernel_rfl) | (as_aux_lemma => kernel_rfl))
theorem namedBestClue : Tryz.checked.prog.funcNamed Rows.fnExactBestClueRow.func = some 8 := by kernel_rfl
theorem wrapBestClue : Tryz.f8.isWrapper Tryz.checked.prog Rows.fnExactBestClueRow.wrapper Rows.fnExactBestClueRow.mainSum := by
  unfold Func.isWrapper; first | (rw [if_pos (by decide +kernel)]; kernel_rfl) | (rw [if_neg (by decide +kernel)]; exact ⟨rfl, rfl⟩)
end Go.Proofs.YtpbghalljfcaoaaGreat
