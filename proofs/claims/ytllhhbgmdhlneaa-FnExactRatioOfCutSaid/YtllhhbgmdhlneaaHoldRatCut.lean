/- FnExactRatioOfCut returns true for every input and leaves its arguments as they were: no condition. -/
import Derived.Test.YtllhhbgmdhlneaaRowRatCut
import Derived.Test.YtllhhbgmdhlneaaFactsRatCut
namespace Go.Proofs.Ytllhhbgmdhlneaa

theorem holdsRatioOfCut : Rows.FnExactRatioOfCutSaid :=
  OpenClaim.holds_of_wide 13 Try.f13 rfl rfl rfl rfl rfl rfl rfl ⟨rfl, rfl, rfl, rfl, rfl⟩ rfl rfl rfl rfl rfl namedRatioOfCut Try.func13 closedRatioOfCut
    (of_decide_eq_true (by kernel_rfl)) wrapRatioOfCut
    (fun os started H enc _ => fnExactRatioOfCut_lifted os started H enc)
#print axioms holdsRatioOfCut
end Go.Proofs.Ytllhhbgmdhlneaa
