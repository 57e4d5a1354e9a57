/- The closed facts of FnExactBesideCuts's row. -/
import Derived.Test.YtgajpghlbjaciaaIo
namespace Go.Proofs.Ytgajpghlbjaciaa
set_option maxHeartbeats 4000000 in
theorem closedBesideCuts : joinedFacts Try.checked.prog 3 Try.f3 Rows.fnExactBesideCutsSpec Rows.fnExactBesideCutsRow = true := by
  unfold joinedFacts
  simp only [Bool.and_eq_true]
  repeat' apply And.intro
  all_goals (first | with_reducible exact headEnter | (rw [headMake]; kernel_rfl) | (rw [headFinal]; kernel_rfl) | (as_aux_lemma => kernel_rfl))
theorem namedBesideCuts : Try.checked.prog.funcNamed Rows.fnExactBesideCutsRow.func = some 3 := by kernel_rfl
theorem wrapBesideCuts : Try.f3.isWrapper Try.checked.prog Rows.fnExactBesideCutsRow.wrapper Rows.fnExactBesideCutsRow.mainSum := by
  unfold Func.isWrapper; first | (rw [if_pos (by decide +kernel)]; kernel_rfl) | (rw [if_neg (by decide +kernel)]; exact ⟨rfl, rfl⟩)
end Go.Proofs.Ytgajpghlbjaciaa
