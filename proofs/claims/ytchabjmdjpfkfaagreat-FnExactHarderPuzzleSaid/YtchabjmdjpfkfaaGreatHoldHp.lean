/- FnExactHarderPuzzle returns true for every input and leaves its arguments as they were: no condition. -/
import Derived.Test.YtchabjmdjpfkfaaGreatRowHp
import Derived.Test.YtchabjmdjpfkfaaGreatFactsHp
set_option linter.all false
namespace Go.Proofs.YtchabjmdjpfkfaaGreat

theorem holdsHarderPuzzle : Rows.FnExactHarderPuzzleSaid :=
  OpenClaim.holds_of_wide 4 Tryz.f4 rfl rfl rfl rfl rfl rfl rfl ⟨rfl, rfl, rfl, rfl, rfl⟩ rfl rfl rfl rfl rfl namedHarderPuzzle Tryz.func4 closedHarderPuzzle
    (of_decide_eq_true (by kernel_rfl)) wrapHarderPuzzle
    (fun os started H enc _ => fnExactHarderPuzzle_lifted os started H enc)
#print axioms holdsHarderPuzzle
end Go.Proofs.YtchabjmdjpfkfaaGreat
