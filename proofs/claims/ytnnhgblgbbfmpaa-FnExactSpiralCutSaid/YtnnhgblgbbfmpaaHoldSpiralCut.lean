/- FnExactSpiralCut returns true for every input and leaves its arguments as they were: no condition. -/
import Derived.Test.YtnnhgblgbbfmpaaRowSpiralCut
import Derived.Test.YtnnhgblgbbfmpaaFactsSpiralCut
set_option linter.all false
namespace Go.Proofs.Ytnnhgblgbbfmpaa

theorem holdsSpiralCut : Rows.FnExactSpiralCutSaid :=
  OpenClaim.holds_of_wide 14 Try.f14 rfl rfl rfl rfl rfl rfl rfl ⟨rfl, rfl, rfl, rfl, rfl⟩ rfl rfl rfl rfl rfl namedSpiralCut Try.func14 closedSpiralCut
    (of_decide_eq_true (by kernel_rfl)) wrapSpiralCut
    (fun os started H enc _ => fnExactSpiralCut_lifted os started H enc)
#print axioms holdsSpiralCut
end Go.Proofs.Ytnnhgblgbbfmpaa
