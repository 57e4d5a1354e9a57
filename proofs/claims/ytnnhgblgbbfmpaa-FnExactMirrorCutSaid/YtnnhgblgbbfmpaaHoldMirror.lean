/- FnExactMirrorCut returns true for every input and leaves its arguments as they were: no condition. -/
import Derived.Test.YtnnhgblgbbfmpaaRowMirror
import Derived.Test.YtnnhgblgbbfmpaaFactsMirror
set_option linter.all false
namespace Go.Proofs.Ytnnhgblgbbfmpaa

theorem holdsMirrorCut : Rows.FnExactMirrorCutSaid :=
  OpenClaim.holds_of_wide 3 Try.f3 rfl rfl rfl rfl rfl rfl rfl ⟨rfl, rfl, rfl, rfl, rfl⟩ rfl rfl rfl rfl rfl namedMirrorCut Try.func3 closedMirrorCut
    (of_decide_eq_true (by kernel_rfl)) wrapMirrorCut
    (fun os started H enc _ => fnExactMirrorCut_lifted os started H enc)
#print axioms holdsMirrorCut
end Go.Proofs.Ytnnhgblgbbfmpaa
