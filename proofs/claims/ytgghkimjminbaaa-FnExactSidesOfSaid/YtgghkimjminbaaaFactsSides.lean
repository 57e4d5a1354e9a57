/- The closed facts of FnExactSidesOf's row. -/
import Derived.Test.YtgghkimjminbaaaRows
import Derived.ProofKit
set_option linter.all false
namespace Go.Proofs.Ytgghkimjminbaaa
set_option maxHeartbeats 4000000 in
theorem closedSidesOf : joinedFacts Try.checked.prog 7 Try.f7 Rows.fnExactSidesOfSpec Rows.fnExactSidesOfRow = true := by
  unfold joinedFacts
  simp only [Bool.and_eq_true]
  repeat' apply And.intro
  all_goals (as_aux_lemma => kernel_rfl)
theorem namedSidesOf : Try.checked.prog.funcNamed Rows.fnExactSidesOfRow.func = some 7 := by kernel_rfl
theorem wrapSidesOf : Try.f7.isWrapper Try.checked.prog Rows.fnExactSidesOfRow.wrapper Rows.fnExactSidesOfRow.mainSum := by
  unfold Func.isWrapper; first | (rw [if_pos (by decide +kernel)]; kernel_rfl) | (rw [if_neg (by decide +kernel)]; exact ⟨rfl, rfl⟩)
end Go.Proofs.Ytgghkimjminbaaa
