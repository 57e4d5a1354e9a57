/- The ratio of a cut: the program's and the model's. -/
import Derived.Test.YtilneimiedfjnaaGcd
set_option linter.all false
namespace Go.Proofs.Ytilneimiedfjnaa
open Go.RowKit

theorem quoW {x : Int} {g : Nat} (h0 : 0 ≤ x) (h1 : x ≤ 500) : IntKind.i64.wrap (x.tdiv (g : Int)) = x / (g : Int) := by
  rw [Int.tdiv_eq_ediv_of_nonneg h0]
  by_cases hg : g = 0
  · subst hg; simp; exact IntWalk.i64_in 0 (by omega)
  · have a := Int.ediv_nonneg h0 (show (0 : Int) ≤ (g : Int) by omega)
    have b := Int.ediv_le_self (g : Int) h0
    exact IntWalk.i64_in _ (by omega)
theorem quoW2 {x : Int} {g : Nat} (h0 : 0 ≤ x) (h1 : x ≤ 500) : wrap64 (x / (g : Int)) = x / (g : Int) := by
  have e := quoW (g := g) h0 h1
  rw [Int.tdiv_eq_ediv_of_nonneg h0] at e
  rw [← IntWalk.i64_left]
  exact e
noncomputable def ratR (W H : Int) (L : List Sq) : Int × Int × Bool := if dc (Good W H L) then (W / (Nat.gcd W.toNat H.toNat : Int), H / (Nat.gcd W.toNat H.toNat : Int), true) else (0, 0, false)
theorem ratR_yes {W H : Int} {L : List Sq} (h : Good W H L) : ratR W H L = (W / (Nat.gcd W.toNat H.toNat : Int), H / (Nat.gcd W.toNat H.toNat : Int), true) := by simp [ratR, dc_true h]
theorem ratR_no {W H : Int} {L : List Sq} (h : ¬ Good W H L) : ratR W H L = (0, 0, false) := by simp [ratR, dc_false h]
def RetRat (w : World) (r : Int × Int × Bool) (e : Ending) (w' : World) : Prop := e = .returned (.tuple #[.int .i64 r.1, .int .i64 r.2.1, .bool r.2.2]) ∧ Below w.heap.size w w'
set_option maxRecDepth 100000 in
theorem lowest_any (a b : Nat) (w : World) (ha : 1 ≤ a ∧ a ≤ 500) (hb : 1 ≤ b ∧ b ≤ 500) :
    Calls Try.prog 68 #[.int .i64 a, .int .i64 b] w fun e w' => e = .returned (.tuple #[.int .i64 ((a : Int) / (Nat.gcd a b : Int)), .int .i64 ((b : Int) / (Nat.gcd a b : Int))]) ∧ Below w.heap.size w w' := by
  obtain ⟨g, hg⟩ : ∃ g, Nat.gcd a b = g := ⟨_, rfl⟩
  have hg0 : 1 ≤ g := by rw [← hg]; exact Nat.gcd_pos_of_pos_left _ (by omega)
  have hc := implGcd_any a b w ha.2 hb.2
  rw [hg] at hc ⊢
  have HC := Lib.hid hc
  clear hc hg
  have e0 : wrap64 ((a : Int) / (g : Int)) = (a : Int) / (g : Int) := quoW2 (by omega) (by omega)
  have e1 : wrap64 ((b : Int) / (g : Int)) = (b : Int) / (g : Int) := quoW2 (by omega) (by omega)
  have g0 : (g : Int) ≠ 0 := by omega
  go_enter Try.func68, Try.ntmps68
  go_wp2_with fail
  refine HC.out.mono ?_
  rintro e w2 ⟨rfl, hb2⟩
  clear HC
  go_wp2_with fail
  go_region
  go_wp2_with fail
  rw [e0, e1]
  go_ret2
  exact ⟨rfl, hb2.drew⟩
end Go.Proofs.Ytilneimiedfjnaa
