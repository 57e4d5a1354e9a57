/- FnExactSureSides returns true for every input and leaves its arguments as they were: no condition. -/
import Derived.Test.YtchabjmdjpfkfaaGreatRowSu
import Derived.Test.YtchabjmdjpfkfaaGreatFactsSu
set_option linter.all false
namespace Go.Proofs.YtchabjmdjpfkfaaGreat

theorem holdsSureSides : Rows.FnExactSureSidesSaid :=
  OpenClaim.holds_of_wide 3 Tryz.f3 rfl rfl rfl rfl rfl rfl rfl ⟨rfl, rfl, rfl, rfl, rfl⟩ rfl rfl rfl rfl rfl namedSureSides Tryz.func3 closedSureSides
    (of_decide_eq_true (by kernel_rfl)) wrapSureSides
    (fun os started H enc _ => fnExactSureSides_lifted os started H enc)
#print axioms holdsSureSides
end Go.Proofs.YtchabjmdjpfkfaaGreat
