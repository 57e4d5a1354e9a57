/- FnExactSidesOf returns true for every input and leaves its arguments as they were: no condition. -/
import Derived.Test.YtgghkimjminbaaaRowSides
import Derived.Test.YtgghkimjminbaaaFactsSides
set_option linter.all false
namespace Go.Proofs.Ytgghkimjminbaaa

theorem holdsSidesOf : Rows.FnExactSidesOfSaid :=
  OpenClaim.holds_of_wide 7 Try.f7 rfl rfl rfl rfl rfl rfl rfl ⟨rfl, rfl, rfl, rfl, rfl⟩ rfl rfl rfl rfl rfl namedSidesOf Try.func7 closedSidesOf
    (of_decide_eq_true (by kernel_rfl)) wrapSidesOf
    (fun os started H enc _ => fnExactSidesOf_lifted os started H enc)
#print axioms holdsSidesOf
end Go.Proofs.Ytgghkimjminbaaa
