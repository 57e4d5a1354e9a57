/- FnExactLinesOf returns true for every input and leaves its arguments as they were: no condition. -/
import Derived.Test.YtgnlnooeapoekaaRowLines
import Derived.Test.YtgnlnooeapoekaaFactsLines
namespace Go.Proofs.Ytgnlnooeapoekaa

theorem holdsLinesOf : Rows.FnExactLinesOfSaid :=
  OpenClaim.holds_of_wide 6 Try.f6 rfl rfl rfl rfl rfl rfl rfl ⟨rfl, rfl, rfl, rfl, rfl⟩ rfl rfl rfl rfl rfl namedLinesOf Try.func6 closedLinesOf
    (of_decide_eq_true (by kernel_rfl)) wrapLinesOf
    (fun os started H enc _ => fnExactLinesOf_lifted os started H enc)
#print axioms holdsLinesOf
end Go.Proofs.Ytgnlnooeapoekaa
