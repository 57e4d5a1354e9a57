/- Contract of the program's GrowCut. -/
import Derived.Test.YtmjdmedlkcmgiaaGrowT
set_option linter.all false
namespace Go.Proofs.Ytmjdmedlkcmgiaa
open Go.RowKit

theorem flat_grow_succ (k0 : Int) (L : List Sq) (k : Nat) (s : Sq) (h : L[k]? = some s) : flat (growL k0 (L.take (k + 1))) = flat (growL k0 (L.take k)) ++ [.int .i64 (k0 * s.x), .int .i64 (k0 * s.y), .int .i64 (k0 * s.d)] := flat_map_succ (growS k0) L k s h
theorem mul_bd {k x M : Int} (hk : 1 ≤ k) (h0 : 0 ≤ x) (h1 : x ≤ M) (hM : k * M ≤ 500) : 0 ≤ k * x ∧ k * x ≤ 500 :=
  ⟨Int.mul_nonneg (by omega) h0, Int.le_trans ((mul_le hk).2 h1) hM⟩

end Go.Proofs.Ytmjdmedlkcmgiaa
