/- FnExactMirrorCode returns true for every input and leaves its arguments as they were: no condition. -/
import Derived.Test.YtnnhgblgbbfmpaaRowMirC
import Derived.Test.YtnnhgblgbbfmpaaFactsMirC
set_option linter.all false
namespace Go.Proofs.Ytnnhgblgbbfmpaa

theorem holdsMirrorCode : Rows.FnExactMirrorCodeSaid :=
  OpenClaim.holds_of_wide 6 Try.f6 rfl rfl rfl rfl rfl rfl rfl ⟨rfl, rfl, rfl, rfl, rfl⟩ rfl rfl rfl rfl rfl namedMirrorCode Try.func6 closedMirrorCode
    (of_decide_eq_true (by kernel_rfl)) wrapMirrorCode
    (fun os started H enc _ => fnExactMirrorCode_lifted os started H enc)
#print axioms holdsMirrorCode
end Go.Proofs.Ytnnhgblgbbfmpaa
