/- FnExactSpiralCut returns true for every input and leaves its arguments as they were: no condition. -/
import Derived.Test.YtgajpghlbjaciaaRowSpiralCut
import Derived.Test.YtgajpghlbjaciaaFactsSpiralCut
namespace Go.Proofs.Ytgajpghlbjaciaa

theorem holdsSpiralCut : Rows.FnExactSpiralCutSaid :=
  OpenClaim.holds_of_wide 10 Try.f10 rfl rfl rfl rfl rfl rfl rfl ⟨rfl, rfl, rfl, rfl, rfl⟩ rfl rfl rfl rfl rfl namedSpiralCut Try.func10 closedSpiralCut
    (of_decide_eq_true (by kernel_rfl)) wrapSpiralCut
    (fun os started H enc _ => fnExactSpiralCut_lifted os started H enc)
#print axioms holdsSpiralCut
end Go.Proofs.Ytgajpghlbjaciaa
