/- The closed facts of FnExactLeftByClues's row. -/
import Derived.Test.YtpbghalljfcaoaaGreatIo
set_option linter.all false
namespace Go.Proofs.YtpbghalljfcaoaaGreat
set_option maxHeartbeats 4000000 in
theorem closedLeftByClues : joinedFacts Tryz.checked.prog 7 Tryz.f7 Rows.fnExactLeftByCluesSpec Rows.fnExactLeftByCluesRow = true := by
  unfold joinedFacts
  simp only [Bool.and_eq_true]
  repeat' apply And.intro
  all_goals (first | with_reducible exact headEnter | (rw [headMake]; kernel_rfl) | (rw [headFinal]; kernel_rfl) | (as_aux_lemma => kernel_rfl))
theorem namedLeftByClues : Tryz.checked.prog.funcNamed Rows.fnExactLeftByCluesRow.func = some 7 := by kernel_rfl
theorem wrapLeftByClues : Tryz.f7.isWrapper Tryz.checked.prog Rows.fnExactLeftByCluesRow.wrapper Rows.fnExactLeftByCluesRow.mainSum := by
  unfold Func.isWrapper; first | (rw [if_pos (by decide +kernel)]; kernel_rfl) | (rw [if_neg (by decide +kernel)]; exact ⟨rfl, rfl⟩)
end Go.Proofs.YtpbghalljfcaoaaGreat
