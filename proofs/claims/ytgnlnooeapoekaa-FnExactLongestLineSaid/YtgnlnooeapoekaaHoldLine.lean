/- FnExactLongestLine returns true for every input and leaves its arguments as they were: no condition. -/
import Derived.Test.YtgnlnooeapoekaaRowLine
import Derived.Test.YtgnlnooeapoekaaFactsLine
namespace Go.Proofs.Ytgnlnooeapoekaa

theorem holdsLongestLine : Rows.FnExactLongestLineSaid :=
  OpenClaim.holds_of_wide 3 Try.f3 rfl rfl rfl rfl rfl rfl rfl ⟨rfl, rfl, rfl, rfl, rfl⟩ rfl rfl rfl rfl rfl namedLongestLine Try.func3 closedLongestLine
    (of_decide_eq_true (by kernel_rfl)) wrapLongestLine
    (fun os started H enc _ => fnExactLongestLine_lifted os started H enc)
#print axioms holdsLongestLine
end Go.Proofs.Ytgnlnooeapoekaa
