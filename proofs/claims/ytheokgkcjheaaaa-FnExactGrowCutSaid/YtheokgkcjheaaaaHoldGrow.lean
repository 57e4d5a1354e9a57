/- FnExactGrowCut returns true for every input and leaves its arguments as they were: no condition. -/
import Derived.Test.YtheokgkcjheaaaaRowGrow
import Derived.Test.YtheokgkcjheaaaaFactsGrow
namespace Go.Proofs.Ytheokgkcjheaaaa

theorem holdsGrowCut : Rows.FnExactGrowCutSaid :=
  OpenClaim.holds_of_wide 10 Try.f10 rfl rfl rfl rfl rfl rfl rfl ⟨rfl, rfl, rfl, rfl, rfl⟩ rfl rfl rfl rfl rfl namedGrowCut Try.func10 closedGrowCut
    (of_decide_eq_true (by kernel_rfl)) wrapGrowCut
    (fun os started H enc _ => fnExactGrowCut_lifted os started H enc)
#print axioms holdsGrowCut
end Go.Proofs.Ytheokgkcjheaaaa
