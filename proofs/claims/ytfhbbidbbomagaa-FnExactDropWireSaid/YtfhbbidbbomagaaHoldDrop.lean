/- FnExactDropWire returns true for every input and leaves its arguments as they were: no condition. -/
import Derived.Test.YtfhbbidbbomagaaRowDrop
import Derived.Test.YtfhbbidbbomagaaFactsDrop
namespace Go.Proofs.Ytfhbbidbbomagaa

theorem holdsDropWire : Rows.FnExactDropWireSaid :=
  OpenClaim.holds_of_wide 3 Try.f3 rfl rfl rfl rfl rfl rfl rfl ⟨rfl, rfl, rfl, rfl, rfl⟩ rfl rfl rfl rfl rfl namedDropWire Try.func3 closedDropWire
    (of_decide_eq_true (by kernel_rfl)) wrapDropWire
    (fun os started H enc _ => fnExactDropWire_lifted os started H enc)
#print axioms holdsDropWire
end Go.Proofs.Ytfhbbidbbomagaa
