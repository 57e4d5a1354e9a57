/- FnExactIsSimple returns true for every input and leaves its arguments as they were: no condition. -/
import Derived.Test.YtiipjlejcknnfaaRowSimple
import Derived.Test.YtiipjlejcknnfaaFactsSimple
namespace Go.Proofs.Ytiipjlejcknnfaa

theorem holdsIsSimple : Rows.FnExactIsSimpleSaid :=
  OpenClaim.holds_of_wide 5 Try.f5 rfl rfl rfl rfl rfl rfl rfl ⟨rfl, rfl, rfl, rfl, rfl⟩ rfl rfl rfl rfl rfl namedIsSimple Try.func5 closedIsSimple
    (of_decide_eq_true (by kernel_rfl)) wrapIsSimple
    (fun os started H enc _ => fnExactIsSimple_lifted os started H enc)
#print axioms holdsIsSimple
end Go.Proofs.Ytiipjlejcknnfaa
