/- FnExactFirstSolution returns true for every input and leaves its arguments as they were: no condition. -/
import Derived.Test.YtpbghalljfcaoaaGreatRowFst
import Derived.Test.YtpbghalljfcaoaaGreatFactsFst
set_option linter.all false
namespace Go.Proofs.YtpbghalljfcaoaaGreat

theorem holdsFirstSolution : Rows.FnExactFirstSolutionSaid :=
  OpenClaim.holds_of_wide 5 Tryz.f5 rfl rfl rfl rfl rfl rfl rfl ⟨rfl, rfl, rfl, rfl, rfl⟩ rfl rfl rfl rfl rfl namedFirstSolution Tryz.func5 closedFirstSolution
    (of_decide_eq_true (by kernel_rfl)) wrapFirstSolution
    (fun os started H enc _ => fnExactFirstSolution_lifted os started H enc)
#print axioms holdsFirstSolution
end Go.Proofs.YtpbghalljfcaoaaGreat
