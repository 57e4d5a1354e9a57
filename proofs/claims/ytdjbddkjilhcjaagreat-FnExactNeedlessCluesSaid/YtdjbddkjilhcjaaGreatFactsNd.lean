/- The closed facts of FnExactNeedlessClues's row. -/
import Derived.Test.YtdjbddkjilhcjaaGreatIo
set_option linter.all false
namespace Go.Proofs.YtdjbddkjilhcjaaGreat
set_option maxHeartbeats 4000000 in
theorem closedNeedlessClues : joinedFacts Tryz.checked.prog 3 Tryz.f3 Rows.fnExactNeedlessCluesSpec Rows.fnExactNeedlessCluesRow = true := by
  unfold joinedFacts
  simp only [Bool.and_eq_true]
  repeat' apply And.intro
  all_goals (first | with_reducible exact headEnter | (rw [headMake]; kernel_rfl) | (rw [headFinal]; kernel_rfl) | (as_aux_lemma => kernel_rfl))
theorem namedNeedlessClues : Tryz.checked.prog.funcNamed Rows.fnExactNeedlessCluesRow.func = some 3 := by kernel_rfl
theorem wrapNeedlessClues : Tryz.f3.isWrapper Tryz.checked.prog Rows.fnExactNeedlessCluesRow.wrapper Rows.fnExactNeedlessCluesRow.mainSum := by
  unfold Func.isWrapper; first | (rw [if_pos (by decide +kernel)]; kernel_rfl) | (rw [if_neg (by decide +kernel)]; exact ⟨rfl, rfl⟩)
end Go.Proofs.YtdjbddkjilhcjaaGreat
