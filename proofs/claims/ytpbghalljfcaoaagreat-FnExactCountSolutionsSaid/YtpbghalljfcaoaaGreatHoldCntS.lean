/- FnExactCountSolutions returns true for every input and leaves its arguments as they were: no condition. -/
import Derived.Test.YtpbghalljfcaoaaGreatRowCntS
import Derived.Test.YtpbghalljfcaoaaGreatFactsCntS
set_option linter.all false
namespace Go.Proofs.YtpbghalljfcaoaaGreat

theorem holdsCountSolutions : Rows.FnExactCountSolutionsSaid :=
  OpenClaim.holds_of_wide 4 Tryz.f4 rfl rfl rfl rfl rfl rfl rfl ⟨rfl, rfl, rfl, rfl, rfl⟩ rfl rfl rfl rfl rfl namedCountSolutions Tryz.func4 closedCountSolutions
    (of_decide_eq_true (by kernel_rfl)) wrapCountSolutions
    (fun os started H enc _ => fnExactCountSolutions_lifted os started H enc)
#print axioms holdsCountSolutions
end Go.Proofs.YtpbghalljfcaoaaGreat
