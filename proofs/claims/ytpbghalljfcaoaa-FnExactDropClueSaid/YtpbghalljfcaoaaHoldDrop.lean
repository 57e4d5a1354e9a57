/- FnExactDropClue returns true for every input and leaves its arguments as they were: no condition. -/
import Derived.Test.YtpbghalljfcaoaaRowDrop
import Derived.Test.YtpbghalljfcaoaaFactsDrop
set_option linter.all false
namespace Go.Proofs.Ytpbghalljfcaoaa

theorem holdsDropClue : Rows.FnExactDropClueSaid :=
  OpenClaim.holds_of_wide 6 Try.f6 rfl rfl rfl rfl rfl rfl rfl ⟨rfl, rfl, rfl, rfl, rfl⟩ rfl rfl rfl rfl rfl namedDropClue Try.func6 closedDropClue
    (of_decide_eq_true (by kernel_rfl)) wrapDropClue
    (fun os started H enc _ => fnExactDropClue_lifted os started H enc)
#print axioms holdsDropClue
end Go.Proofs.Ytpbghalljfcaoaa
