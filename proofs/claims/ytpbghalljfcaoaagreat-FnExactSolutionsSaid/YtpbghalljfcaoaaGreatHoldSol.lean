/- FnExactSolutions returns true for every input and leaves its arguments as they were: no condition. -/
import Derived.Test.YtpbghalljfcaoaaGreatRowSol
import Derived.Test.YtpbghalljfcaoaaGreatFactsSol
set_option linter.all false
namespace Go.Proofs.YtpbghalljfcaoaaGreat

theorem holdsSolutions : Rows.FnExactSolutionsSaid :=
  OpenClaim.holds_of_wide 3 Tryz.f3 rfl rfl rfl rfl rfl rfl rfl ⟨rfl, rfl, rfl, rfl, rfl⟩ rfl rfl rfl rfl rfl namedSolutions Tryz.func3 closedSolutions
    (of_decide_eq_true (by kernel_rfl)) wrapSolutions
    (fun os started H enc _ => fnExactSolutions_lifted os started H enc)
#print axioms holdsSolutions
end Go.Proofs.YtpbghalljfcaoaaGreat
