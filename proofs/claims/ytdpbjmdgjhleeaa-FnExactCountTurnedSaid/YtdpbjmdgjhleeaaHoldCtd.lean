/- FnExactCountTurned returns true for every input and leaves its arguments as they were: no condition. -/
import Derived.Test.YtdpbjmdgjhleeaaRowCtd
import Derived.Test.YtdpbjmdgjhleeaaFactsCtd
set_option linter.all false
namespace Go.Proofs.Ytdpbjmdgjhleeaa

theorem holdsCountTurned : Rows.FnExactCountTurnedSaid :=
  OpenClaim.holds_of_wide 8 Try.f8 rfl rfl rfl rfl rfl rfl rfl ⟨rfl, rfl, rfl, rfl, rfl⟩ rfl rfl rfl rfl rfl namedCountTurned Try.func8 closedCountTurned
    (of_decide_eq_true (by kernel_rfl)) wrapCountTurned
    (fun os started H enc _ => fnExactCountTurned_lifted os started H enc)
#print axioms holdsCountTurned
end Go.Proofs.Ytdpbjmdgjhleeaa
