/- FnExactCountWholeStrips returns true for every input and leaves its arguments as they were: no condition. -/
import Derived.Test.YtebnekicbcdnaaaRowCws
import Derived.Test.YtebnekicbcdnaaaFactsCws
set_option linter.all false
namespace Go.Proofs.Ytebnekicbcdnaaa

theorem holdsCountWholeStrips : Rows.FnExactCountWholeStripsSaid :=
  OpenClaim.holds_of_wide 13 Try.f13 rfl rfl rfl rfl rfl rfl rfl ⟨rfl, rfl, rfl, rfl, rfl⟩ rfl rfl rfl rfl rfl namedCountWholeStrips Try.func13 closedCountWholeStrips
    (of_decide_eq_true (by kernel_rfl)) wrapCountWholeStrips
    (fun os started H enc _ => fnExactCountWholeStrips_lifted os started H enc)
#print axioms holdsCountWholeStrips
end Go.Proofs.Ytebnekicbcdnaaa
