/- FnExactCompareCodes returns true for every input and leaves its arguments as they were: no condition. -/
import Derived.Test.YtllhhbgmdhlneaaRowCmp
import Derived.Test.YtllhhbgmdhlneaaFactsCmp
namespace Go.Proofs.Ytllhhbgmdhlneaa

theorem holdsCompareCodes : Rows.FnExactCompareCodesSaid :=
  OpenClaim.holds_of_wide 7 Try.f7 rfl rfl rfl rfl rfl rfl rfl ⟨rfl, rfl, rfl, rfl, rfl⟩ rfl rfl rfl rfl rfl namedCompareCodes Try.func7 closedCompareCodes
    (of_decide_eq_true (by kernel_rfl)) wrapCompareCodes
    (fun os started H enc _ => fnExactCompareCodes_lifted os started H enc)
#print axioms holdsCompareCodes
end Go.Proofs.Ytllhhbgmdhlneaa
