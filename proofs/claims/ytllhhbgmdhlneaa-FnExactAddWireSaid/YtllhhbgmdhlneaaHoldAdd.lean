/- FnExactAddWire returns true for every input and leaves its arguments as they were: no condition. -/
import Derived.Test.YtllhhbgmdhlneaaRowAdd
import Derived.Test.YtllhhbgmdhlneaaFactsAdd
namespace Go.Proofs.Ytllhhbgmdhlneaa

theorem holdsAddWire : Rows.FnExactAddWireSaid :=
  OpenClaim.holds_of_wide 8 Try.f8 rfl rfl rfl rfl rfl rfl rfl ⟨rfl, rfl, rfl, rfl, rfl⟩ rfl rfl rfl rfl rfl namedAddWire Try.func8 closedAddWire
    (of_decide_eq_true (by kernel_rfl)) wrapAddWire
    (fun os started H enc _ => fnExactAddWire_lifted os started H enc)
#print axioms holdsAddWire
end Go.Proofs.Ytllhhbgmdhlneaa
