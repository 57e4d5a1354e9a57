/- FnExactPutSquare returns true for every input and leaves its arguments as they were: no condition. -/
import Derived.Test.YtnnhgblgbbfmpaaRowPutSquare
import Derived.Test.YtnnhgblgbbfmpaaFactsPutSquare
set_option linter.all false
namespace Go.Proofs.Ytnnhgblgbbfmpaa

theorem holdsPutSquare : Rows.FnExactPutSquareSaid :=
  OpenClaim.holds_of_wide 13 Try.f13 rfl rfl rfl rfl rfl rfl rfl ⟨rfl, rfl, rfl, rfl, rfl⟩ rfl rfl rfl rfl rfl namedPutSquare Try.func13 closedPutSquare
    (of_decide_eq_true (by kernel_rfl)) wrapPutSquare
    (fun os started H enc _ => fnExactPutSquare_lifted os started H enc)
#print axioms holdsPutSquare
end Go.Proofs.Ytnnhgblgbbfmpaa
