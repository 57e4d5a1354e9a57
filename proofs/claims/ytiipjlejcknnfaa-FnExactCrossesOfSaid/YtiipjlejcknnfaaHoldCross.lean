/- FnExactCrossesOf returns true for every input and leaves its arguments as they were: no condition. -/
import Derived.Test.YtiipjlejcknnfaaRowCross
import Derived.Test.YtiipjlejcknnfaaFactsCross
namespace Go.Proofs.Ytiipjlejcknnfaa

theorem holdsCrossesOf : Rows.FnExactCrossesOfSaid :=
  OpenClaim.holds_of_wide 3 Try.f3 rfl rfl rfl rfl rfl rfl rfl ⟨rfl, rfl, rfl, rfl, rfl⟩ rfl rfl rfl rfl rfl namedCrossesOf Try.func3 closedCrossesOf
    (of_decide_eq_true (by kernel_rfl)) wrapCrossesOf
    (fun os started H enc _ => fnExactCrossesOf_lifted os started H enc)
#print axioms holdsCrossesOf
end Go.Proofs.Ytiipjlejcknnfaa
