/- FnExactAddClue returns true for every input and leaves its arguments as they were: no condition. -/
import Derived.Test.YtpbghalljfcaoaaRowAddC
import Derived.Test.YtpbghalljfcaoaaFactsAddC
set_option linter.all false
namespace Go.Proofs.Ytpbghalljfcaoaa

theorem holdsAddClue : Rows.FnExactAddClueSaid :=
  OpenClaim.holds_of_wide 7 Try.f7 rfl rfl rfl rfl rfl rfl rfl ⟨rfl, rfl, rfl, rfl, rfl⟩ rfl rfl rfl rfl rfl namedAddClue Try.func7 closedAddClue
    (of_decide_eq_true (by kernel_rfl)) wrapAddClue
    (fun os started H enc _ => fnExactAddClue_lifted os started H enc)
#print axioms holdsAddClue
end Go.Proofs.Ytpbghalljfcaoaa
