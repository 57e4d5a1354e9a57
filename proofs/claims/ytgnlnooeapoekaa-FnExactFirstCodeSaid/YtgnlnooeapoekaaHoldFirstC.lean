/- FnExactFirstCode returns true for every input and leaves its arguments as they were: no condition. -/
import Derived.Test.YtgnlnooeapoekaaRowFirstC
import Derived.Test.YtgnlnooeapoekaaFactsFirstC
namespace Go.Proofs.Ytgnlnooeapoekaa

theorem holdsFirstCode : Rows.FnExactFirstCodeSaid :=
  OpenClaim.holds_of_wide 5 Try.f5 rfl rfl rfl rfl rfl rfl rfl ⟨rfl, rfl, rfl, rfl, rfl⟩ rfl rfl rfl rfl rfl namedFirstCode Try.func5 closedFirstCode
    (of_decide_eq_true (by kernel_rfl)) wrapFirstCode
    (fun os started H enc _ => fnExactFirstCode_lifted os started H enc)
#print axioms holdsFirstCode
end Go.Proofs.Ytgnlnooeapoekaa
