/- FnExactLinesAcross returns true for every input and leaves its arguments as they were: no condition. -/
import Derived.Test.YtilneimiedfjnaaRowLinesAcross
import Derived.Test.YtilneimiedfjnaaFactsLinesAcross
set_option linter.all false
namespace Go.Proofs.Ytilneimiedfjnaa

theorem holdsLinesAcross : Rows.FnExactLinesAcrossSaid :=
  OpenClaim.holds_of_wide 6 Try.f6 rfl rfl rfl rfl rfl rfl rfl ⟨rfl, rfl, rfl, rfl, rfl⟩ rfl rfl rfl rfl rfl namedLinesAcross Try.func6 closedLinesAcross
    (of_decide_eq_true (by kernel_rfl)) wrapLinesAcross
    (fun os started H enc _ => fnExactLinesAcross_lifted os started H enc)
#print axioms holdsLinesAcross
end Go.Proofs.Ytilneimiedfjnaa
