/- FnExactFewestByLines returns true for every input and leaves its arguments as they were: no condition. -/
import Derived.Test.YtnhemdcbiaonbaaRowFewL
import Derived.Test.YtnhemdcbiaonbaaFactsFewL
namespace Go.Proofs.Ytnhemdcbiaonbaa

theorem holdsFewestByLines : Rows.FnExactFewestByLinesSaid :=
  OpenClaim.holds_of_wide 8 Try.f8 rfl rfl rfl rfl rfl rfl rfl ⟨rfl, rfl, rfl, rfl, rfl⟩ rfl rfl rfl rfl rfl namedFewestByLines Try.func8 closedFewestByLines
    (of_decide_eq_true (by kernel_rfl)) wrapFewestByLines
    (fun os started H enc _ => fnExactFewestByLines_lifted os started H enc)
#print axioms holdsFewestByLines
end Go.Proofs.Ytnhemdcbiaonbaa
