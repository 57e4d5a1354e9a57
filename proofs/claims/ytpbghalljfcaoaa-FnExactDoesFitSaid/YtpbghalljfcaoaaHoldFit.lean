/- FnExactDoesFit returns true for every input and leaves its arguments as they were: no condition. -/
import Derived.Test.YtpbghalljfcaoaaRowFit
import Derived.Test.YtpbghalljfcaoaaFactsFit
set_option linter.all false
namespace Go.Proofs.Ytpbghalljfcaoaa

theorem holdsDoesFit : Rows.FnExactDoesFitSaid :=
  OpenClaim.holds_of_wide 5 Try.f5 rfl rfl rfl rfl rfl rfl rfl ⟨rfl, rfl, rfl, rfl, rfl⟩ rfl rfl rfl rfl rfl namedDoesFit Try.func5 closedDoesFit
    (of_decide_eq_true (by kernel_rfl)) wrapDoesFit
    (fun os started H enc _ => fnExactDoesFit_lifted os started H enc)
#print axioms holdsDoesFit
end Go.Proofs.Ytpbghalljfcaoaa
