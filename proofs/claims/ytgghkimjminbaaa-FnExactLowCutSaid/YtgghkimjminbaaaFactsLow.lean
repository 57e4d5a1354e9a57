/- The closed facts of FnExactLowCut's row. -/
import Derived.Test.YtgghkimjminbaaaRows
import Derived.ProofKit
set_option linter.all false
namespace Go.Proofs.Ytgghkimjminbaaa
set_option maxHeartbeats 4000000 in
theorem closedLowCut : joinedFacts Try.checked.prog 12 Try.f12 Rows.fnExactLowCutSpec Rows.fnExactLowCutRow = true := by
  unfold joinedFacts
  simp only [Bool.and_eq_true]
  repeat' apply And.intro
  all_goals (as_aux_lemma => kernel_rfl)
theorem namedLowCut : Try.checked.prog.funcNamed Rows.fnExactLowCutRow.func = some 12 := by kernel_rfl
theorem wrapLowCut : Try.f12.isWrapper Try.checked.prog Rows.fnExactLowCutRow.wrapper Rows.fnExactLowCutRow.mainSum := by
  unfold Func.isWrapper; first | (rw [if_pos (by decide +kernel)]; kernel_rfl) | (rw [if_neg (by decide +kernel)]; exact ⟨rfl, rfl⟩)
end Go.Proofs.Ytgghkimjminbaaa
