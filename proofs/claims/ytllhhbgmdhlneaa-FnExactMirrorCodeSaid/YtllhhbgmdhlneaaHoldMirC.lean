/- FnExactMirrorCode returns true for every input and leaves its arguments as they were: no condition. -/
import Derived.Test.YtllhhbgmdhlneaaRowMirC
import Derived.Test.YtllhhbgmdhlneaaFactsMirC
namespace Go.Proofs.Ytllhhbgmdhlneaa

theorem holdsMirrorCode : Rows.FnExactMirrorCodeSaid :=
  OpenClaim.holds_of_wide 5 Try.f5 rfl rfl rfl rfl rfl rfl rfl ⟨rfl, rfl, rfl, rfl, rfl⟩ rfl rfl rfl rfl rfl namedMirrorCode Try.func5 closedMirrorCode
    (of_decide_eq_true (by kernel_rfl)) wrapMirrorCode
    (fun os started H enc _ => fnExactMirrorCode_lifted os started H enc)
#print axioms holdsMirrorCode
end Go.Proofs.Ytllhhbgmdhlneaa
