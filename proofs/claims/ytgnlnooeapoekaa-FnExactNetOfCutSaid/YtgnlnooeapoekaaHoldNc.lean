/- FnExactNetOfCut returns true for every input and leaves its arguments as they were: no condition. -/
import Derived.Test.YtgnlnooeapoekaaRowNc
import Derived.Test.YtgnlnooeapoekaaFactsNc
namespace Go.Proofs.Ytgnlnooeapoekaa

theorem holdsNetOfCut : Rows.FnExactNetOfCutSaid :=
  OpenClaim.holds_of_wide 7 Try.f7 rfl rfl rfl rfl rfl rfl rfl ⟨rfl, rfl, rfl, rfl, rfl⟩ rfl rfl rfl rfl rfl namedLinesOf Try.func7 closedLinesOf
    (of_decide_eq_true (by kernel_rfl)) wrapLinesOf
    (fun os started H enc _ => fnExactNetOfCut_lifted os started H enc)
#print axioms holdsNetOfCut
end Go.Proofs.Ytgnlnooeapoekaa
