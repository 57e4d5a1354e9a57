/- The closed facts of FnExactIsPerfect's row. -/
import Derived.Test.YtgghkimjminbaaaRows
import Derived.ProofKit
set_option linter.all false
namespace Go.Proofs.Ytgghkimjminbaaa
set_option maxHeartbeats 4000000 in
theorem closedIsPerfect : joinedFacts Try.checked.prog 8 Try.f8 Rows.fnExactIsPerfectSpec Rows.fnExactIsPerfectRow = true := by
  unfold joinedFacts
  simp only [Bool.and_eq_true]
  repeat' apply And.intro
  all_goals (as_aux_lemma => kernel_rfl)
theorem namedIsPerfect : Try.checked.prog.funcNamed Rows.fnExactIsPerfectRow.func = some 8 := by kernel_rfl
theorem wrapIsPerfect : Try.f8.isWrapper Try.checked.prog Rows.fnExactIsPerfectRow.wrapper Rows.fnExactIsPerfectRow.mainSum := by
  unfold Func.isWrapper; first | (rw [if_pos (by decide +kernel)]; kernel_rfl) | (rw [if_neg (by decide +kernel)]; exact ⟨rfl, rfl⟩)
end Go.Proofs.Ytgghkimjminbaaa
