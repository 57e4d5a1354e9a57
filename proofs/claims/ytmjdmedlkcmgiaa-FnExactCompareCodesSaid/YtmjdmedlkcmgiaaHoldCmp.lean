/- FnExactCompareCodes returns true for every input and leaves its arguments as they were: no condition. -/
import Derived.Test.YtmjdmedlkcmgiaaRowCmp
import Derived.Test.YtmjdmedlkcmgiaaFactsCmp
set_option linter.all false
namespace Go.Proofs.Ytmjdmedlkcmgiaa

theorem holdsCompareCodes : Rows.FnExactCompareCodesSaid :=
  OpenClaim.holds_of_wide 11 Try.f11 rfl rfl rfl rfl rfl rfl rfl ⟨rfl, rfl, rfl, rfl, rfl⟩ rfl rfl rfl rfl rfl namedCompareCodes Try.func11 closedCompareCodes
    (of_decide_eq_true (by kernel_rfl)) wrapCompareCodes
    (fun os started H enc _ => fnExactCompareCodes_lifted os started H enc)
#print axioms holdsCompareCodes
end Go.Proofs.Ytmjdmedlkcmgiaa
