/- FnExactCountMirrored returns true for every input and leaves its arguments as they were: no condition. -/
import Derived.Test.YtdpbjmdgjhleeaaRowCmi
import Derived.Test.YtdpbjmdgjhleeaaFactsCmi
set_option linter.all false
namespace Go.Proofs.Ytdpbjmdgjhleeaa

theorem holdsCountMirrored : Rows.FnExactCountMirroredSaid :=
  OpenClaim.holds_of_wide 10 Try.f10 rfl rfl rfl rfl rfl rfl rfl ⟨rfl, rfl, rfl, rfl, rfl⟩ rfl rfl rfl rfl rfl namedCountMirrored Try.func10 closedCountMirrored
    (of_decide_eq_true (by kernel_rfl)) wrapCountMirrored
    (fun os started H enc _ => fnExactCountMirrored_lifted os started H enc)
#print axioms holdsCountMirrored
end Go.Proofs.Ytdpbjmdgjhleeaa
