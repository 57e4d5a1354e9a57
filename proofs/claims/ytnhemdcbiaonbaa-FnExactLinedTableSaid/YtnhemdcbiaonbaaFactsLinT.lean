/- The closed facts of FnExactLinedTable's row. -/
import Derived.Test.YtnhemdcbiaonbaaIo
namespace Go.Proofs.Ytnhemdcbiaonbaa
set_option maxHeartbeats 4000000 in
theorem closedLinedTable : joinedFacts Try.checked.prog 9 Try.f9 Rows.fnExactLinedTableSpec Rows.fnExactLinedTableRow = true := by
  unfold joinedFacts
  simp only [Bool.and_eq_true]
  repeat' apply And.intro
  all_goals (first | with_reducible exact headEnter | (rw [headMake]; kernel_rfl) | (rw [headFinal]; kernel_rfl) | (as_aux_lemma => kernel_rfl))
theorem namedLinedTable : Try.checked.prog.funcNamed Rows.fnExactLinedTableRow.func = some 9 := by kernel_rfl
theorem wrapLinedTable : Try.f9.isWrapper Try.checked.prog Rows.fnExactLinedTableRow.wrapper Rows.fnExactLinedTableRow.mainSum := by
  unfold Func.isWrapper; first | (rw [if_pos (by decide +kernel)]; kernel_rfl) | (rw [if_neg (by decide +kernel)]; exact ⟨rfl, rfl⟩)
end Go.Proofs.Ytnhemdcbiaonbaa
