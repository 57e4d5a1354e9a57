/- FnExactLinesOf returns true for every input and leaves its arguments as they were: no condition. -/
import Derived.Test.YtnnhgblgbbfmpaaRowLines
import Derived.Test.YtnnhgblgbbfmpaaFactsLines
set_option linter.all false
namespace Go.Proofs.Ytnnhgblgbbfmpaa

theorem holdsLinesOf : Rows.FnExactLinesOfSaid :=
  OpenClaim.holds_of_wide 9 Try.f9 rfl rfl rfl rfl rfl rfl rfl ⟨rfl, rfl, rfl, rfl, rfl⟩ rfl rfl rfl rfl rfl namedLinesOf Try.func9 closedLinesOf
    (of_decide_eq_true (by kernel_rfl)) wrapLinesOf
    (fun os started H enc _ => fnExactLinesOf_lifted os started H enc)
#print axioms holdsLinesOf
end Go.Proofs.Ytnnhgblgbbfmpaa
