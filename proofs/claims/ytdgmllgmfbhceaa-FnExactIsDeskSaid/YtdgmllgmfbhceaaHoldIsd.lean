/- FnExactIsDesk returns true for every input and leaves its arguments as they were: no condition. -/
import Derived.Test.YtdgmllgmfbhceaaRowIsd
import Derived.Test.YtdgmllgmfbhceaaFactsIsd
set_option linter.all false
namespace Go.Proofs.Ytdgmllgmfbhceaa

theorem holdsIsDesk : Rows.FnExactIsDeskSaid :=
  OpenClaim.holds_of_wide 3 Try.f3 rfl rfl rfl rfl rfl rfl rfl ⟨rfl, rfl, rfl, rfl, rfl⟩ rfl rfl rfl rfl rfl namedIsDesk Try.func3 closedIsDesk
    (of_decide_eq_true (by kernel_rfl)) wrapIsDesk
    (fun os started H enc _ => fnExactIsDesk_lifted os started H enc)
#print axioms holdsIsDesk
end Go.Proofs.Ytdgmllgmfbhceaa
