/- FnExactBesideCuts returns true for every input and leaves its arguments as they were: no condition. -/
import Derived.Test.YtnnhgblgbbfmpaaRowBesideCuts
import Derived.Test.YtnnhgblgbbfmpaaFactsBesideCuts
set_option linter.all false
namespace Go.Proofs.Ytnnhgblgbbfmpaa

theorem holdsBesideCuts : Rows.FnExactBesideCutsSaid :=
  OpenClaim.holds_of_wide 11 Try.f11 rfl rfl rfl rfl rfl rfl rfl ⟨rfl, rfl, rfl, rfl, rfl⟩ rfl rfl rfl rfl rfl namedBesideCuts Try.func11 closedBesideCuts
    (of_decide_eq_true (by kernel_rfl)) wrapBesideCuts
    (fun os started H enc _ => fnExactBesideCuts_lifted os started H enc)
#print axioms holdsBesideCuts
end Go.Proofs.Ytnnhgblgbbfmpaa
