/- The closed facts of FnExactBesideCuts's row. -/
import Derived.Test.YtnnhgblgbbfmpaaIo
set_option linter.all false
namespace Go.Proofs.Ytnnhgblgbbfmpaa
set_option maxHeartbeats 4000000 in
theorem closedBesideCuts : joinedFacts Try.checked.prog 11 Try.f11 Rows.fnExactBesideCutsSpec Rows.fnExactBesideCutsRow = true := by
  unfold joinedFacts
  simp only [Bool.and_eq_true]
  repeat' apply And.intro
  all_goals (first | with_reducible exact headEnter | (rw [headMake]; kernel_rfl) | (rw [headFinal]; kernel_rfl) | (as_aux_lemma => kernel_rfl))
theorem namedBesideCuts : Try.checked.prog.funcNamed Rows.fnExactBesideCutsRow.func = some 11 := by kernel_rfl
theorem wrapBesideCuts : Try.f11.isWrapper Try.checked.prog Rows.fnExactBesideCutsRow.wrapper Rows.fnExactBesideCutsRow.mainSum := by
  unfold Func.isWrapper; first | (rw [if_pos (by decide +kernel)]; kernel_rfl) | (rw [if_neg (by decide +kernel)]; exact ⟨rfl, rfl⟩)
end Go.Proofs.Ytnnhgblgbbfmpaa
