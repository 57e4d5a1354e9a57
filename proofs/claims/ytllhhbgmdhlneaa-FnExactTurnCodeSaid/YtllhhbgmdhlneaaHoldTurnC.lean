/- FnExactTurnCode returns true for every input and leaves its arguments as they were: no condition. -/
import Derived.Test.YtllhhbgmdhlneaaRowTurnC
import Derived.Test.YtllhhbgmdhlneaaFactsTurnC
namespace Go.Proofs.Ytllhhbgmdhlneaa

theorem holdsTurnCode : Rows.FnExactTurnCodeSaid :=
  OpenClaim.holds_of_wide 4 Try.f4 rfl rfl rfl rfl rfl rfl rfl ⟨rfl, rfl, rfl, rfl, rfl⟩ rfl rfl rfl rfl rfl namedTurnCode Try.func4 closedTurnCode
    (of_decide_eq_true (by kernel_rfl)) wrapTurnCode
    (fun os started H enc _ => fnExactTurnCode_lifted os started H enc)
#print axioms holdsTurnCode
end Go.Proofs.Ytllhhbgmdhlneaa
