/- FnExactCountStripsWithout returns true for every input and leaves its arguments as they were: no condition. -/
import Derived.Test.YtebnekicbcdnaaaRowSwo
import Derived.Test.YtebnekicbcdnaaaFactsSwo
set_option linter.all false
namespace Go.Proofs.Ytebnekicbcdnaaa

theorem holdsCountStripsWithout : Rows.FnExactCountStripsWithoutSaid :=
  OpenClaim.holds_of_wide 5 Try.f5 rfl rfl rfl rfl rfl rfl rfl ⟨rfl, rfl, rfl, rfl, rfl⟩ rfl rfl rfl rfl rfl namedCountStripsWithout Try.func5 closedCountStripsWithout
    (of_decide_eq_true (by kernel_rfl)) wrapCountStripsWithout
    (fun os started H enc _ => fnExactCountStripsWithout_lifted os started H enc)
#print axioms holdsCountStripsWithout
end Go.Proofs.Ytebnekicbcdnaaa
