/- FnExactMirrorCut returns true for every input and leaves its arguments as they were: no condition. -/
import Derived.Test.YtheokgkcjheaaaaRowMirror
import Derived.Test.YtheokgkcjheaaaaFactsMirror
namespace Go.Proofs.Ytheokgkcjheaaaa

theorem holdsMirrorCut : Rows.FnExactMirrorCutSaid :=
  OpenClaim.holds_of_wide 9 Try.f9 rfl rfl rfl rfl rfl rfl rfl ⟨rfl, rfl, rfl, rfl, rfl⟩ rfl rfl rfl rfl rfl namedMirrorCut Try.func9 closedMirrorCut
    (of_decide_eq_true (by kernel_rfl)) wrapMirrorCut
    (fun os started H enc _ => fnExactMirrorCut_lifted os started H enc)
#print axioms holdsMirrorCut
end Go.Proofs.Ytheokgkcjheaaaa
