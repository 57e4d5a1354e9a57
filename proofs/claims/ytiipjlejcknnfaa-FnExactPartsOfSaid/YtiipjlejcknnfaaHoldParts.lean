/- FnExactPartsOf returns true for every input and leaves its arguments as they were: no condition. -/
import Derived.Test.YtiipjlejcknnfaaRowParts
import Derived.Test.YtiipjlejcknnfaaFactsParts
namespace Go.Proofs.Ytiipjlejcknnfaa

theorem holdsPartsOf : Rows.FnExactPartsOfSaid :=
  OpenClaim.holds_of_wide 4 Try.f4 rfl rfl rfl rfl rfl rfl rfl ⟨rfl, rfl, rfl, rfl, rfl⟩ rfl rfl rfl rfl rfl namedPartsOf Try.func4 closedPartsOf
    (of_decide_eq_true (by kernel_rfl)) wrapPartsOf
    (fun os started H enc _ => fnExactPartsOf_lifted os started H enc)
#print axioms holdsPartsOf
end Go.Proofs.Ytiipjlejcknnfaa
