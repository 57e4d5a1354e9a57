/- FnExactCutOf returns true for every input and leaves its arguments as they were: no condition. -/
import Derived.Test.YtgghkimjminbaaaRowCutOf
import Derived.Test.YtgghkimjminbaaaFactsCutOf
set_option linter.all false
namespace Go.Proofs.Ytgghkimjminbaaa

theorem holdsCutOf : Rows.FnExactCutOfSaid :=
  OpenClaim.holds_of_wide 6 Try.f6 rfl rfl rfl rfl rfl rfl rfl ⟨rfl, rfl, rfl, rfl, rfl⟩ rfl rfl rfl rfl rfl namedCutOf Try.func6 closedCutOf
    (of_decide_eq_true (by kernel_rfl)) wrapCutOf
    (fun os started H enc _ => fnExactCutOf_lifted os started H enc)
#print axioms holdsCutOf
end Go.Proofs.Ytgghkimjminbaaa
