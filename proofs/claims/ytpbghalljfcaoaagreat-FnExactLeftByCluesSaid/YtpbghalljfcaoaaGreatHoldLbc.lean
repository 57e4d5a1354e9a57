/- FnExactLeftByClues returns true for every input and leaves its arguments as they were: no condition. -/
import Derived.Test.YtpbghalljfcaoaaGreatRowLbc
import Derived.Test.YtpbghalljfcaoaaGreatFactsLbc
set_option linter.all false
namespace Go.Proofs.YtpbghalljfcaoaaGreat

theorem holdsLeftByClues : Rows.FnExactLeftByCluesSaid :=
  OpenClaim.holds_of_wide 7 Tryz.f7 rfl rfl rfl rfl rfl rfl rfl ⟨rfl, rfl, rfl, rfl, rfl⟩ rfl rfl rfl rfl rfl namedLeftByClues Tryz.func7 closedLeftByClues
    (of_decide_eq_true (by kernel_rfl)) wrapLeftByClues
    (fun os started H enc _ => fnExactLeftByClues_lifted os started H enc)
#print axioms holdsLeftByClues
end Go.Proofs.YtpbghalljfcaoaaGreat
