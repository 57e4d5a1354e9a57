/- Contract of the program's GrowCut. -/
import Derived.Test.YtmjdmedlkcmgiaaGrowI
set_option linter.all false
namespace Go.Proofs.Ytmjdmedlkcmgiaa
open Go.RowKit

theorem quo_fit {k M : Int} (_hk : 1 ≤ k) (hM : 1 ≤ M) : ¬ 500 / M < k ↔ k * M ≤ 500 := by
  rw [Int.not_lt]
  exact Int.le_ediv_iff_mul_le (by omega)
theorem quo_wrap {M : Int} (hM : 1 ≤ M) : IntKind.i64.wrap ((500 : Int).tdiv M) = 500 / M ∧ 0 ≤ (500 : Int) / M ∧ (500 : Int) / M ≤ 500 := by
  have h0 : 0 ≤ (500 : Int) / M := Int.ediv_nonneg (by decide) (by omega)
  have h1 : (500 : Int) / M ≤ 500 := Int.ediv_le_self _ (by decide)
  refine ⟨?_, h0, h1⟩
  rw [Int.tdiv_eq_ediv_of_nonneg (by decide)]
  exact IntWalk.i64_in _ (by omega)
end Go.Proofs.Ytmjdmedlkcmgiaa
