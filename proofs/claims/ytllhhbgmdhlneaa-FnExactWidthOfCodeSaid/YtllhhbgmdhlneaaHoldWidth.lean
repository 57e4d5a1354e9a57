/- FnExactWidthOfCode returns true for every input and leaves its arguments as they were: no condition. -/
import Derived.Test.YtllhhbgmdhlneaaRowWidth
import Derived.Test.YtllhhbgmdhlneaaFactsWidth
namespace Go.Proofs.Ytllhhbgmdhlneaa

theorem holdsWidthOfCode : Rows.FnExactWidthOfCodeSaid :=
  OpenClaim.holds_of_wide 3 Try.f3 rfl rfl rfl rfl rfl rfl rfl ⟨rfl, rfl, rfl, rfl, rfl⟩ rfl rfl rfl rfl rfl namedWidthOfCode Try.func3 closedWidthOfCode
    (of_decide_eq_true (by kernel_rfl)) wrapWidthOfCode
    (fun os started H enc _ => fnExactWidthOfCode_lifted os started H enc)
#print axioms holdsWidthOfCode
end Go.Proofs.Ytllhhbgmdhlneaa
