/- FnExactLevelsOf returns true for every input and leaves its arguments as they were: no condition. -/
import Derived.Test.YtiipjlejcknnfaaRowLevels
import Derived.Test.YtiipjlejcknnfaaFactsLevels
namespace Go.Proofs.Ytiipjlejcknnfaa

theorem holdsLevelsOf : Rows.FnExactLevelsOfSaid :=
  OpenClaim.holds_of_wide 7 Try.f7 rfl rfl rfl rfl rfl rfl rfl ⟨rfl, rfl, rfl, rfl, rfl⟩ rfl rfl rfl rfl rfl namedLevelsOf Try.func7 closedLevelsOf
    (of_decide_eq_true (by kernel_rfl)) wrapLevelsOf
    (fun os started H enc _ => fnExactLevelsOf_lifted os started H enc)
#print axioms holdsLevelsOf
end Go.Proofs.Ytiipjlejcknnfaa
