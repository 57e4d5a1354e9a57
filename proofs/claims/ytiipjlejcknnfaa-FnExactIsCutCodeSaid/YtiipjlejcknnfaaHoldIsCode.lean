/- FnExactIsCutCode returns true for every input and leaves its arguments as they were: no condition. -/
import Derived.Test.YtiipjlejcknnfaaRowIsCode
import Derived.Test.YtiipjlejcknnfaaFactsIsCode
namespace Go.Proofs.Ytiipjlejcknnfaa

theorem holdsIsCutCode : Rows.FnExactIsCutCodeSaid :=
  OpenClaim.holds_of_wide 11 Try.f11 rfl rfl rfl rfl rfl rfl rfl ⟨rfl, rfl, rfl, rfl, rfl⟩ rfl rfl rfl rfl rfl namedIsCutCode Try.func11 closedIsCutCode
    (of_decide_eq_true (by kernel_rfl)) wrapIsCutCode
    (fun os started H enc _ => fnExactIsCutCode_lifted os started H enc)
#print axioms holdsIsCutCode
end Go.Proofs.Ytiipjlejcknnfaa
