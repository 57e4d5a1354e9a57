/- FnExactCutOfSides returns true for every input and leaves its arguments as they were: no condition. -/
import Derived.Test.YtiipjlejcknnfaaRowCutSides
import Derived.Test.YtiipjlejcknnfaaFactsCutSides
namespace Go.Proofs.Ytiipjlejcknnfaa

theorem holdsCutOfSides : Rows.FnExactCutOfSidesSaid :=
  OpenClaim.holds_of_wide 9 Try.f9 rfl rfl rfl rfl rfl rfl rfl ⟨rfl, rfl, rfl, rfl, rfl⟩ rfl rfl rfl rfl rfl namedCutOfSides Try.func9 closedCutOfSides
    (of_decide_eq_true (by kernel_rfl)) wrapCutOfSides
    (fun os started H enc _ => fnExactCutOfSides_lifted os started H enc)
#print axioms holdsCutOfSides
end Go.Proofs.Ytiipjlejcknnfaa
