/- FnExactMakePuzzle returns true for every input and leaves its arguments as they were: no condition. -/
import Derived.Test.YtpbghalljfcaoaaRowMake
import Derived.Test.YtpbghalljfcaoaaFactsMake
set_option linter.all false
namespace Go.Proofs.Ytpbghalljfcaoaa

theorem holdsMakePuzzle : Rows.FnExactMakePuzzleSaid :=
  OpenClaim.holds_of_wide 8 Try.f8 rfl rfl rfl rfl rfl rfl rfl ⟨rfl, rfl, rfl, rfl, rfl⟩ rfl rfl rfl rfl rfl namedMakePuzzle Try.func8 closedMakePuzzle
    (of_decide_eq_true (by kernel_rfl)) wrapMakePuzzle
    (fun os started H enc _ => fnExactMakePuzzle_lifted os started H enc)
#print axioms holdsMakePuzzle
end Go.Proofs.Ytpbghalljfcaoaa
