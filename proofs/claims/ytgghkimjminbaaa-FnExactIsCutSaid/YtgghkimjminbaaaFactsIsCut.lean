/- The closed facts of FnExactIsCut's row. -/
import Derived.Test.YtgghkimjminbaaaRows
import Derived.ProofKit
set_option linter.all false
namespace Go.Proofs.Ytgghkimjminbaaa
set_option maxHeartbeats 4000000 in
theorem closedIsCut : joinedFacts Try.checked.prog 4 Try.f4 Rows.fnExactIsCutSpec Rows.fnExactIsCutRow = true := by
  unfold joinedFacts
  simp only [Bool.and_eq_true]
  repeat' apply And.intro
  all_goals (as_aux_lemma => kernel_rfl)
theorem namedIsCut : Try.checked.prog.funcNamed Rows.fnExactIsCutRow.func = some 4 := by kernel_rfl
theorem wrapIsCut : Try.f4.isWrapper Try.checked.prog Rows.fnExactIsCutRow.wrapper Rows.fnExactIsCutRow.mainSum := by
  unfold Func.isWrapper; first | (rw [if_pos (by decide +kernel)]; kernel_rfl) | (rw [if_neg (by decide +kernel)]; exact ⟨rfl, rfl⟩)
end Go.Proofs.Ytgghkimjminbaaa
