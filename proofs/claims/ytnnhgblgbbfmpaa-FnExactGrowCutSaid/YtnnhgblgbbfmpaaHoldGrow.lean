/- FnExactGrowCut returns true for every input and leaves its arguments as they were: no condition. -/
import Derived.Test.YtnnhgblgbbfmpaaRowGrow
import Derived.Test.YtnnhgblgbbfmpaaFactsGrow
set_option linter.all false
namespace Go.Proofs.Ytnnhgblgbbfmpaa

theorem holdsGrowCut : Rows.FnExactGrowCutSaid :=
  OpenClaim.holds_of_wide 4 Try.f4 rfl rfl rfl rfl rfl rfl rfl ⟨rfl, rfl, rfl, rfl, rfl⟩ rfl rfl rfl rfl rfl namedGrowCut Try.func4 closedGrowCut
    (of_decide_eq_true (by kernel_rfl)) wrapGrowCut
    (fun os started H enc _ => fnExactGrowCut_lifted os started H enc)
#print axioms holdsGrowCut
end Go.Proofs.Ytnnhgblgbbfmpaa
