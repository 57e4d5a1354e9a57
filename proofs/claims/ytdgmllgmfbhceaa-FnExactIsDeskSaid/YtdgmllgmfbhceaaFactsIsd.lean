/- The closed facts of FnExactIsDesk's row. -/
import Derived.Test.YtdgmllgmfbhceaaRows
import Derived.ProofKit
set_option linter.all false
namespace Go.Proofs.Ytdgmllgmfbhceaa
set_option maxHeartbeats 4000000 in
theorem closedIsDesk : joinedFacts Try.checked.prog 3 Try.f3 Rows.fnExactIsDeskSpec Rows.fnExactIsDeskRow = true := by
  unfold joinedFacts
  simp only [Bool.and_eq_true]
  repeat' apply And.intro
  all_goals (as_aux_lemma => kernel_rfl)
theorem namedIsDesk : Try.checked.prog.funcNamed Rows.fnExactIsDeskRow.func = some 3 := by kernel_rfl
theorem wrapIsDesk : Try.f3.isWrapper Try.checked.prog Rows.fnExactIsDeskRow.wrapper Rows.fnExactIsDeskRow.mainSum := by
  unfold Func.isWrapper; first | (rw [if_pos (by decide +kernel)]; kernel_rfl) | (rw [if_neg (by decide +kernel)]; exact ⟨rfl, rfl⟩)
end Go.Proofs.Ytdgmllgmfbhceaa
