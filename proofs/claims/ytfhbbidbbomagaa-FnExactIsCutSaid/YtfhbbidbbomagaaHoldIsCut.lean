/- FnExactIsCut returns true for every input and leaves its arguments as they were: no condition. -/
import Derived.Test.YtfhbbidbbomagaaRowIsCut
import Derived.Test.YtfhbbidbbomagaaFactsIsCut
namespace Go.Proofs.Ytfhbbidbbomagaa

theorem holdsIsCut : Rows.FnExactIsCutSaid :=
  OpenClaim.holds_of_wide 11 Try.f11 rfl rfl rfl rfl rfl rfl rfl ⟨rfl, rfl, rfl, rfl, rfl⟩ rfl rfl rfl rfl rfl namedIsCut Try.func11 closedIsCut
    (of_decide_eq_true (by kernel_rfl)) wrapIsCut
    (fun os started H enc _ => fnExactIsCut_lifted os started H enc)
#print axioms holdsIsCut
end Go.Proofs.Ytfhbbidbbomagaa
