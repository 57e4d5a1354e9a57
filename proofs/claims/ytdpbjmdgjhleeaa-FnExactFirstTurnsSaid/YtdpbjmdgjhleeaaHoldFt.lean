/- FnExactFirstTurns returns true for every input and leaves its arguments as they were: no condition. -/
import Derived.Test.YtdpbjmdgjhleeaaRowFt
import Derived.Test.YtdpbjmdgjhleeaaFactsFt
set_option linter.all false
namespace Go.Proofs.Ytdpbjmdgjhleeaa

theorem holdsFirstTurns : Rows.FnExactFirstTurnsSaid :=
  OpenClaim.holds_of_wide 9 Try.f9 rfl rfl rfl rfl rfl rfl rfl ⟨rfl, rfl, rfl, rfl, rfl⟩ rfl rfl rfl rfl rfl namedFirstTurns Try.func9 closedFirstTurns
    (of_decide_eq_true (by kernel_rfl)) wrapFirstTurns
    (fun os started H enc _ => fnExactFirstTurns_lifted os started H enc)
#print axioms holdsFirstTurns
end Go.Proofs.Ytdpbjmdgjhleeaa
