/- The laws' size of a cut, whatever is left. -/
import Derived.Test.YtilneimiedfjnaaRcC
set_option linter.all false
namespace Go.Proofs.Ytilneimiedfjnaa
open Go.RowKit

theorem szCutL_ok (W H : Int) (A : Option Addr) (n c : Nat) (left : Int) (w : World) (h1 : left ≤ 1048576) (h : (n : Int) ≤ left) :
    Calls Try.prog 15 #[.agg #[.int .i64 W, .int .i64 H, .slice A n c], .int .i64 left] w fun e w' => e = .returned (.int .i64 (left - n)) ∧ Below w.heap.size w w' := by
  have h' : ¬ left - n < 0 := by omega
  go_enter Try.func15, Try.ntmps15
  go_wp2_with fail
  refine (szSquareS_ok A n c _ _ h1 h).mono ?_
  rintro e w' ⟨rfl, rfl⟩
  go_wp2
  go_ret
  exact ⟨rfl, (Below.refl _ _).alloc (Nat.le_refl _) _⟩
theorem szCutL_over (W H : Int) (A : Option Addr) (n c : Nat) (left : Int) (w : World) (h0 : 0 ≤ left) (h1 : left ≤ 1048576) (h : left < n) (hn : n ≤ 9223372036854775807) :
    Calls Try.prog 15 #[.agg #[.int .i64 W, .int .i64 H, .slice A n c], .int .i64 left] w fun e w' => e = .returned (.int .i64 (-1)) ∧ Below w.heap.size w w' := by
  go_enter Try.func15, Try.ntmps15
  go_wp2_with fail
  refine (szSquareS_over A n c _ _ h0 h hn).mono ?_
  rintro e w' ⟨rfl, rfl⟩
  go_wp2
  go_ret
  exact ⟨rfl, (Below.refl _ _).alloc (Nat.le_refl _) _⟩
/-- Blocks of a row of a call's own. -/
theorem own_in {w : World} {base : Nat} {e : TypeId} {size n : Nat} {v : Value} {xs : List Value} (h : w.ownsRow base e size v n xs) : Hid (∀ k, v.ownBlock = some k → base ≤ k ∧ k < w.heap.size) := Lib.hid fun k hk => h.lt k hk
theorem beT_len (W H : Int) (L : List Sq) (V G : Int) (M : List Sq) : (beT W H L V G M).2.2.1.length ≤ 30 := by
  unfold beT; split
  · exact Mk_len _ _ _
  · simp [noT]
theorem unT_len (W H : Int) (L : List Sq) (V G : Int) (M : List Sq) : (unT W H L V G M).2.2.1.length ≤ 30 := by
  unfold unT; split
  · exact Mk_len _ _ _
  · simp [noT]
end Go.Proofs.Ytilneimiedfjnaa
