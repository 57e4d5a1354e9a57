/- The closed facts of FnExactSureSides's row. -/
import Derived.Test.YtchabjmdjpfkfaaGreatIo
set_option linter.all false
namespace Go.Proofs.YtchabjmdjpfkfaaGreat
set_option maxHeartbeats 4000000 in
theorem closedSureSides : joinedFacts Tryz.checked.prog 3 Tryz.f3 Rows.fnExactSureSidesSpec Rows.fnExactSureSidesRow = true := by
  unfold joinedFacts
  simp only [Bool.and_eq_true]
  repeat' apply And.intro
  all_goals (first | with_reducible exact headEnter | (rw [headMake]; kernel_rfl) | (rw [headFinal]; kernel_rfl) | (as_aux_lemma => kernel_rfl))
theorem namedSureSides : Tryz.checked.prog.funcNamed Rows.fnExactSureSidesRow.func = some 3 := by kernel_rfl
theorem wrapSureSides : Tryz.f3.isWrapper Tryz.checked.prog Rows.fnExactSureSidesRow.wrapper Rows.fnExactSureSidesRow.mainSum := by
  unfold Func.isWrapper; first | (rw [if_pos (by decide +kernel)]; kernel_rfl) | (rw [if_neg (by decide +kernel)]; exact ⟨rfl, rfl⟩)
end Go.Proofs.YtchabjmdjpfkfaaGreat
