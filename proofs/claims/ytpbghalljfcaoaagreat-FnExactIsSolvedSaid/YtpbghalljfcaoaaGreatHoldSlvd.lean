/- FnExactIsSolved returns true for every input and leaves its arguments as they were: no condition. -/
import Derived.Test.YtpbghalljfcaoaaGreatRowSlvd
import Derived.Test.YtpbghalljfcaoaaGreatFactsSlvd
set_option linter.all false
namespace Go.Proofs.YtpbghalljfcaoaaGreat

theorem holdsIsSolved : Rows.FnExactIsSolvedSaid :=
  OpenClaim.holds_of_wide 6 Tryz.f6 rfl rfl rfl rfl rfl rfl rfl ⟨rfl, rfl, rfl, rfl, rfl⟩ rfl rfl rfl rfl rfl namedIsSolved Tryz.func6 closedIsSolved
    (of_decide_eq_true (by kernel_rfl)) wrapIsSolved
    (fun os started H enc _ => fnExactIsSolved_lifted os started H enc)
#print axioms holdsIsSolved
end Go.Proofs.YtpbghalljfcaoaaGreat
