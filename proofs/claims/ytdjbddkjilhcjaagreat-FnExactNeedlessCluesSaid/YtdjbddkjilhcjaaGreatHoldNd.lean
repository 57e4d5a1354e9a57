/- FnExactNeedlessClues returns true for every input and leaves its arguments as they were: no condition. -/
import Derived.Test.YtdjbddkjilhcjaaGreatRowNd
import Derived.Test.YtdjbddkjilhcjaaGreatFactsNd
set_option linter.all false
namespace Go.Proofs.YtdjbddkjilhcjaaGreat

theorem holdsNeedlessClues : Rows.FnExactNeedlessCluesSaid :=
  OpenClaim.holds_of_wide 3 Tryz.f3 rfl rfl rfl rfl rfl rfl rfl ⟨rfl, rfl, rfl, rfl, rfl⟩ rfl rfl rfl rfl rfl namedNeedlessClues Tryz.func3 closedNeedlessClues
    (of_decide_eq_true (by kernel_rfl)) wrapNeedlessClues
    (fun os started H enc _ => fnExactNeedlessClues_lifted os started H enc)
#print axioms holdsNeedlessClues
end Go.Proofs.YtdjbddkjilhcjaaGreat
