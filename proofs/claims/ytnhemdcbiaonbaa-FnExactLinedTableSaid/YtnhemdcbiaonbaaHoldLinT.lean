/- FnExactLinedTable returns true for every input and leaves its arguments as they were: no condition. -/
import Derived.Test.YtnhemdcbiaonbaaRowLinT
import Derived.Test.YtnhemdcbiaonbaaFactsLinT
namespace Go.Proofs.Ytnhemdcbiaonbaa

theorem holdsLinedTable : Rows.FnExactLinedTableSaid :=
  OpenClaim.holds_of_wide 9 Try.f9 rfl rfl rfl rfl rfl rfl rfl ⟨rfl, rfl, rfl, rfl, rfl⟩ rfl rfl rfl rfl rfl namedLinedTable Try.func9 closedLinedTable
    (of_decide_eq_true (by kernel_rfl)) wrapLinedTable
    (fun os started H enc _ => fnExactLinedTable_lifted os started H enc)
#print axioms holdsLinedTable
end Go.Proofs.Ytnhemdcbiaonbaa
