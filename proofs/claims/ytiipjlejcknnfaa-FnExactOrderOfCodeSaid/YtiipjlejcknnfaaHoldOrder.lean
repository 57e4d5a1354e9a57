/- FnExactOrderOfCode returns true for every input and leaves its arguments as they were: no condition. -/
import Derived.Test.YtiipjlejcknnfaaRowOrder
import Derived.Test.YtiipjlejcknnfaaFactsOrder
namespace Go.Proofs.Ytiipjlejcknnfaa

theorem holdsOrderOfCode : Rows.FnExactOrderOfCodeSaid :=
  OpenClaim.holds_of_wide 13 Try.f13 rfl rfl rfl rfl rfl rfl rfl ⟨rfl, rfl, rfl, rfl, rfl⟩ rfl rfl rfl rfl rfl namedOrderOfCode Try.func13 closedOrderOfCode
    (of_decide_eq_true (by kernel_rfl)) wrapOrderOfCode
    (fun os started H enc _ => fnExactOrderOfCode_lifted os started H enc)
#print axioms holdsOrderOfCode
end Go.Proofs.Ytiipjlejcknnfaa
