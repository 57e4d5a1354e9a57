/- FnExactCountStrips returns true for every input and leaves its arguments as they were: no condition. -/
import Derived.Test.YtebnekicbcdnaaaRowCst
import Derived.Test.YtebnekicbcdnaaaFactsCst
set_option linter.all false
namespace Go.Proofs.Ytebnekicbcdnaaa

theorem holdsCountStrips : Rows.FnExactCountStripsSaid :=
  OpenClaim.holds_of_wide 3 Try.f3 rfl rfl rfl rfl rfl rfl rfl ⟨rfl, rfl, rfl, rfl, rfl⟩ rfl rfl rfl rfl rfl namedCountStrips Try.func3 closedCountStrips
    (of_decide_eq_true (by kernel_rfl)) wrapCountStrips
    (fun os started H enc _ => fnExactCountStrips_lifted os started H enc)
#print axioms holdsCountStrips
end Go.Proofs.Ytebnekicbcdnaaa
