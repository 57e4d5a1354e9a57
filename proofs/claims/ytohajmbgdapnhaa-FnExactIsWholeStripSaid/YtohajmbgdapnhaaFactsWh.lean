/- The closed facts of FnExactIsWholeStrip's row. -/
import Derived.Test.YtohajmbgdapnhaaIo
namespace Go.Proofs.Ytohajmbgdapnhaa
set_option maxHeartbeats 4000000 in
theorem closedIsWholeStrip : joinedFacts Try.checked.prog 13 Try.f13 Rows.fnExactIsWholeStripSpec Rows.fnExactIsWholeStripRow = true := by
  unfold joinedFacts
  simp only [Bool.and_eq_true]
  repeat' apply And.intro
  all_goals (first | with_reducible exact headEnter | (rw [headMake]; kernel_rfl) | (rw [headFinal]; kernel_rfl) | (as_aux_lemma => kernel_rfl))
theorem namedIsWholeStrip : Try.checked.prog.funcNamed Rows.fnExactIsWholeStripRow.func = some 13 := by kernel_rfl
theorem wrapIsWholeStrip : Try.f13.isWrapper Try.checked.prog Rows.fnExactIsWholeStripRow.wrapper Rows.fnExactIsWholeStripRow.mainSum := by
  unfold Func.isWrapper; first | (rw [if_pos (by decide +kernel)]; kernel_rfl) | (rw [if_neg (by decide +kernel)]; exact ⟨rfl, rfl⟩)
end Go.Proofs.Ytohajmbgdapnhaa
