/- FnExactCountRatios returns true for every input and leaves its arguments as they were: no condition. -/
import Derived.Test.YtllhhbgmdhlneaaRowCount
import Derived.Test.YtllhhbgmdhlneaaFactsCount
namespace Go.Proofs.Ytllhhbgmdhlneaa

theorem holdsCountRatios : Rows.FnExactCountRatiosSaid :=
  OpenClaim.holds_of_wide 12 Try.f12 rfl rfl rfl rfl rfl rfl rfl ⟨rfl, rfl, rfl, rfl, rfl⟩ rfl rfl rfl rfl rfl namedCountRatios Try.func12 closedCountRatios
    (of_decide_eq_true (by kernel_rfl)) wrapCountRatios
    (fun os started H enc _ => fnExactCountRatios_lifted os started H enc)
#print axioms holdsCountRatios
end Go.Proofs.Ytllhhbgmdhlneaa
