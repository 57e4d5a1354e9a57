/- FnExactLinesAcross returns true for every input and leaves its arguments as they were: no condition. -/
import Derived.Test.YtgajpghlbjaciaaRowLinesAcross
import Derived.Test.YtgajpghlbjaciaaFactsLinesAcross
namespace Go.Proofs.Ytgajpghlbjaciaa

theorem holdsLinesAcross : Rows.FnExactLinesAcrossSaid :=
  OpenClaim.holds_of_wide 12 Try.f12 rfl rfl rfl rfl rfl rfl rfl ⟨rfl, rfl, rfl, rfl, rfl⟩ rfl rfl rfl rfl rfl namedLinesAcross Try.func12 closedLinesAcross
    (of_decide_eq_true (by kernel_rfl)) wrapLinesAcross
    (fun os started H enc _ => fnExactLinesAcross_lifted os started H enc)
#print axioms holdsLinesAcross
end Go.Proofs.Ytgajpghlbjaciaa
