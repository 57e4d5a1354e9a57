/- FnExactSquaresBeside returns true for every input and leaves its arguments as they were: no condition. -/
import Derived.Test.YtmcgcgclhmckeaaRowBeside
import Derived.Test.YtmcgcgclhmckeaaFactsBeside
namespace Go.Proofs.Ytmcgcgclhmckeaa

theorem holdsSquaresBeside : Rows.FnExactSquaresBesideSaid :=
  OpenClaim.holds_of_wide 9 Try.f9 rfl rfl rfl rfl rfl rfl rfl ⟨rfl, rfl, rfl, rfl, rfl⟩ rfl rfl rfl rfl rfl namedSquaresBeside Try.func9 closedSquaresBeside
    (of_decide_eq_true (by kernel_rfl)) wrapSquaresBeside
    (fun os started H enc _ => fnExactSquaresBeside_lifted os started H enc)
#print axioms holdsSquaresBeside
end Go.Proofs.Ytmcgcgclhmckeaa
