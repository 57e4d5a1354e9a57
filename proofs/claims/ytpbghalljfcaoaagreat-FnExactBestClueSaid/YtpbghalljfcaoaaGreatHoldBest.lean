/- FnExactBestClue returns true for every input and leaves its arguments as they were: no condition. -/
import Derived.Test.YtpbghalljfcaoaaGreatRowBest
import Derived.Test.YtpbghalljfcaoaaGreatFactsBest
set_option linter.all false
namespace Go.Proofs.YtpbghalljfcaoaaGreat

theorem holdsBestClue : Rows.FnExactBestClueSaid :=
  OpenClaim.holds_of_wide 8 Tryz.f8 rfl rfl rfl rfl rfl rfl rfl ⟨rfl, rfl, rfl, rfl, rfl⟩ rfl rfl rfl rfl rfl namedBestClue Tryz.func8 closedBestClue
    (of_decide_eq_true (by kernel_rfl)) wrapBestClue
    (fun os started H enc _ => fnExactBestClue_lifted os started H enc)
#print axioms holdsBestClue
end Go.Proofs.YtpbghalljfcaoaaGreat
