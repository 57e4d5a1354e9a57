/- FnExactTakePart returns true for every input and leaves its arguments as they were: no condition. -/
import Derived.Test.YtilneimiedfjnaaRowTakePart
import Derived.Test.YtilneimiedfjnaaFactsTakePart
set_option linter.all false
namespace Go.Proofs.Ytilneimiedfjnaa

theorem holdsTakePart : Rows.FnExactTakePartSaid :=
  OpenClaim.holds_of_wide 3 Try.f3 rfl rfl rfl rfl rfl rfl rfl ⟨rfl, rfl, rfl, rfl, rfl⟩ rfl rfl rfl rfl rfl namedTakePart Try.func3 closedTakePart
    (of_decide_eq_true (by kernel_rfl)) wrapTakePart
    (fun os started H enc _ => fnExactTakePart_lifted os started H enc)
#print axioms holdsTakePart
end Go.Proofs.Ytilneimiedfjnaa
