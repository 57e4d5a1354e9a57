/- FnExactStripsThrough returns true for every input and leaves its arguments as they were: no condition. -/
import Derived.Test.YtebnekicbcdnaaaRowSth
import Derived.Test.YtebnekicbcdnaaaFactsSth
set_option linter.all false
namespace Go.Proofs.Ytebnekicbcdnaaa

theorem holdsStripsThrough : Rows.FnExactStripsThroughSaid :=
  OpenClaim.holds_of_wide 14 Try.f14 rfl rfl rfl rfl rfl rfl rfl ⟨rfl, rfl, rfl, rfl, rfl⟩ rfl rfl rfl rfl rfl namedStripsThrough Try.func14 closedStripsThrough
    (of_decide_eq_true (by kernel_rfl)) wrapStripsThrough
    (fun os started H enc _ => fnExactStripsThrough_lifted os started H enc)
#print axioms holdsStripsThrough
end Go.Proofs.Ytebnekicbcdnaaa
