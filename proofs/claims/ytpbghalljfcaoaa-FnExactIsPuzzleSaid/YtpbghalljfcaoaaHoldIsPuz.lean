/- FnExactIsPuzzle returns true for every input and leaves its arguments as they were: no condition. -/
import Derived.Test.YtpbghalljfcaoaaRowIsPuz
import Derived.Test.YtpbghalljfcaoaaFactsIsPuz
set_option linter.all false
namespace Go.Proofs.Ytpbghalljfcaoaa

theorem holdsIsPuzzle : Rows.FnExactIsPuzzleSaid :=
  OpenClaim.holds_of_wide 4 Try.f4 rfl rfl rfl rfl rfl rfl rfl ⟨rfl, rfl, rfl, rfl, rfl⟩ rfl rfl rfl rfl rfl namedIsPuzzle Try.func4 closedIsPuzzle
    (of_decide_eq_true (by kernel_rfl)) wrapIsPuzzle
    (fun os started H enc _ => fnExactIsPuzzle_lifted os started H enc)
#print axioms holdsIsPuzzle
end Go.Proofs.Ytpbghalljfcaoaa
