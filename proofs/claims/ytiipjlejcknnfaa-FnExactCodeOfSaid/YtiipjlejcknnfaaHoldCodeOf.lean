/- FnExactCodeOf returns true for every input and leaves its arguments as they were: no condition. -/
import Derived.Test.YtiipjlejcknnfaaRowCodeOf
import Derived.Test.YtiipjlejcknnfaaFactsCodeOf
namespace Go.Proofs.Ytiipjlejcknnfaa

theorem holdsCodeOf : Rows.FnExactCodeOfSaid :=
  OpenClaim.holds_of_wide 6 Try.f6 rfl rfl rfl rfl rfl rfl rfl ⟨rfl, rfl, rfl, rfl, rfl⟩ rfl rfl rfl rfl rfl namedCodeOf Try.func6 closedCodeOf
    (of_decide_eq_true (by kernel_rfl)) wrapCodeOf
    (fun os started H enc _ => fnExactCodeOf_lifted os started H enc)
#print axioms holdsCodeOf
end Go.Proofs.Ytiipjlejcknnfaa
