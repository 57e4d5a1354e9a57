/- FnExactCutOf returns true for every input and leaves its arguments as they were: no condition. -/
import Derived.Test.YtheokgkcjheaaaaRowCutOf
import Derived.Test.YtheokgkcjheaaaaFactsCutOf
namespace Go.Proofs.Ytheokgkcjheaaaa

theorem holdsCutOf : Rows.FnExactCutOfSaid :=
  OpenClaim.holds_of_wide 3 Try.f3 rfl rfl rfl rfl rfl rfl rfl ⟨rfl, rfl, rfl, rfl, rfl⟩ rfl rfl rfl rfl rfl namedCutOf Try.func3 closedCutOf
    (of_decide_eq_true (by kernel_rfl)) wrapCutOf
    (fun os started H enc _ => fnExactCutOf_lifted os started H enc)
#print axioms holdsCutOf
end Go.Proofs.Ytheokgkcjheaaaa
