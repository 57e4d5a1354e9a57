/- The closed facts of FnExactSidesOfWord's row. -/
import Derived.Test.YtnecjioimjbniaaIo
namespace Go.Proofs.Ytnecjioimjbniaa
set_option maxHeartbeats 4000000 in
theorem closedSidesOfWord : joinedFacts Try.checked.prog 5 Try.f5 Rows.fnExactSidesOfWordSpec Rows.fnExactSidesOfWordRow = true := by
  unfold joinedFacts
  simp only [Bool.and_eq_true]
  repeat' apply And.intro
  all_goals (first | with_reducible exact headEnter | (rw [headMake]; kernel_rfl) | (rw [headFinal]; kernel_rfl) | (as_aux_lemma => kernel_rfl))
theorem namedSidesOfWord : Try.checked.prog.funcNamed Rows.fnExactSidesOfWordRow.func = some 5 := by kernel_rfl
theorem wrapSidesOfWord : Try.f5.isWrapper Try.checked.prog Rows.fnExactSidesOfWordRow.wrapper Rows.fnExactSidesOfWordRow.mainSum := by
  unfold Func.isWrapper; first | (rw [if_pos (by decide +kernel)]; kernel_rfl) | (rw [if_neg (by decide +kernel)]; exact ⟨rfl, rfl⟩)
end Go.Proofs.Ytnecjioimjbniaa
