/- FnExactCrossesOf returns true for every input and leaves its arguments as they were: no condition. -/
import Derived.Test.YtgghkimjminbaaaRowCross
import Derived.Test.YtgghkimjminbaaaFactsCross
set_option linter.all false
namespace Go.Proofs.Ytgghkimjminbaaa

theorem holdsCrossesOf : Rows.FnExactCrossesOfSaid :=
  OpenClaim.holds_of_wide 13 Try.f13 rfl rfl rfl rfl rfl rfl rfl ⟨rfl, rfl, rfl, rfl, rfl⟩ rfl rfl rfl rfl rfl namedCrossesOf Try.func13 closedCrossesOf
    (of_decide_eq_true (by kernel_rfl)) wrapCrossesOf
    (fun os started H enc _ => fnExactCrossesOf_lifted os started H enc)
#print axioms holdsCrossesOf
end Go.Proofs.Ytgghkimjminbaaa
