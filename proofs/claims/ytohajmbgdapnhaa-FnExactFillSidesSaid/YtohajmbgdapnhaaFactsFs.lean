/- The closed facts of FnExactFillSides's row. -/
import Derived.Test.YtohajmbgdapnhaaIo
namespace Go.Proofs.Ytohajmbgdapnhaa
set_option maxHeartbeats 4000000 in
theorem closedFillSides : joinedFacts Try.checked.prog 10 Try.f10 Rows.fnExactFillSidesSpec Rows.fnExactFillSidesRow = true := by
  unfold joinedFacts
  simp only [Bool.and_eq_true]
  repeat' apply And.intro
  all_goals (first | with_reducible exact headEnter | (rw [headMake]; kernel_rfl) | (rw [headFinal]; kernel_rfl) | (as_aux_lemma => kernel_rfl))
theorem namedFillSides : Try.checked.prog.funcNamed Rows.fnExactFillSidesRow.func = some 10 := by kernel_rfl
theorem wrapFillSides : Try.f10.isWrapper Try.checked.prog Rows.fnExactFillSidesRow.wrapper Rows.fnExactFillSidesRow.mainSum := by
  unfold Func.isWrapper; first | (rw [if_pos (by decide +kernel)]; kernel_rfl) | (rw [if_neg (by decide +kernel)]; exact ⟨rfl, rfl⟩)
end Go.Proofs.Ytohajmbgdapnhaa
