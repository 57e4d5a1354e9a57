/- FnExactIsClue returns true for every input and leaves its arguments as they were: no condition. -/
import Derived.Test.YtpbghalljfcaoaaRowIsClue
import Derived.Test.YtpbghalljfcaoaaFactsIsClue
set_option linter.all false
namespace Go.Proofs.Ytpbghalljfcaoaa

theorem holdsIsClue : Rows.FnExactIsClueSaid :=
  OpenClaim.holds_of_wide 3 Try.f3 rfl rfl rfl rfl rfl rfl rfl ⟨rfl, rfl, rfl, rfl, rfl⟩ rfl rfl rfl rfl rfl namedIsClue Try.func3 closedIsClue
    (of_decide_eq_true (by kernel_rfl)) wrapIsClue
    (fun os started H enc _ => fnExactIsClue_lifted os started H enc)
#print axioms holdsIsClue
end Go.Proofs.Ytpbghalljfcaoaa
