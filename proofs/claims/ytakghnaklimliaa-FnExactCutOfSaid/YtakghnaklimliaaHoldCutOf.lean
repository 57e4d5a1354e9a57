/- FnExactCutOf returns true for every input and leaves its arguments as they were: no condition. -/
import Derived.Test.YtakghnaklimliaaRowCutOf
import Derived.Test.YtakghnaklimliaaFactsCutOf
namespace Go.Proofs.Ytakghnaklimliaa

theorem holdsCutOf : Rows.FnExactCutOfSaid :=
  OpenClaim.holds_of_wide 7 Try.f7 rfl rfl rfl rfl rfl rfl rfl ⟨rfl, rfl, rfl, rfl, rfl⟩ rfl rfl rfl rfl rfl namedCutOf Try.func7 closedCutOf
    (of_decide_eq_true (by kernel_rfl)) wrapCutOf
    (fun os started H enc _ => fnExactCutOf_lifted os started H enc)
#print axioms holdsCutOf
end Go.Proofs.Ytakghnaklimliaa
