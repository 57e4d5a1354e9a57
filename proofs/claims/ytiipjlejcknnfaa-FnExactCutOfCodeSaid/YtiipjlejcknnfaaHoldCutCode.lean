/- FnExactCutOfCode returns true for every input and leaves its arguments as they were: no condition. -/
import Derived.Test.YtiipjlejcknnfaaRowCutCode
import Derived.Test.YtiipjlejcknnfaaFactsCutCode
namespace Go.Proofs.Ytiipjlejcknnfaa

theorem holdsCutOfCode : Rows.FnExactCutOfCodeSaid :=
  OpenClaim.holds_of_wide 10 Try.f10 rfl rfl rfl rfl rfl rfl rfl ⟨rfl, rfl, rfl, rfl, rfl⟩ rfl rfl rfl rfl rfl namedCutOfCode Try.func10 closedCutOfCode
    (of_decide_eq_true (by kernel_rfl)) wrapCutOfCode
    (fun os started H enc _ => fnExactCutOfCode_lifted os started H enc)
#print axioms holdsCutOfCode
end Go.Proofs.Ytiipjlejcknnfaa
