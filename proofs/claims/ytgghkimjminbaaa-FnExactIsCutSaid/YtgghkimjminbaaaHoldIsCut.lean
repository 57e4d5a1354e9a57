/- FnExactIsCut returns true for every input and leaves its arguments as they were: no condition. -/
import Derived.Test.YtgghkimjminbaaaRowIsCut
import Derived.Test.YtgghkimjminbaaaFactsIsCut
set_option linter.all false
namespace Go.Proofs.Ytgghkimjminbaaa

theorem holdsIsCut : Rows.FnExactIsCutSaid :=
  OpenClaim.holds_of_wide 4 Try.f4 rfl rfl rfl rfl rfl rfl rfl ⟨rfl, rfl, rfl, rfl, rfl⟩ rfl rfl rfl rfl rfl namedIsCut Try.func4 closedIsCut
    (of_decide_eq_true (by kernel_rfl)) wrapIsCut
    (fun os started H enc _ => fnExactIsCut_lifted os started H enc)
#print axioms holdsIsCut
end Go.Proofs.Ytgghkimjminbaaa
