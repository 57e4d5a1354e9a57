/- The ratio of a cut: the program's and the model's. -/
import Derived.Test.YtnnhgblgbbfmpaaGcd
set_option linter.all false
namespace Go.Proofs.Ytnnhgblgbbfmpaa
open Go.RowKit

theorem quoW {x : Int} {g : Nat} (h0 : 0 ≤ x) (h1 : x ≤ 500) : IntKind.i64.wrap (x.tdiv (g : Int)) = x / (g : Int) := by
  rw [Int.tdiv_eq_ediv_of_nonneg h0]
  by_cases hg : g = 0
  · subst hg; simp; exact IntWalk.i64_in 0 (by omega)
  · have a := Int.ediv_nonneg h0 (show (0 : Int) ≤ (g : Int) by omega)
    have b := Int.ediv_le_self (g : Int) h0
    exact IntWalk.i64_in _ (by omega)
theorem quoW2 {x : Int} {g : Nat} (h0 : 0 ≤ x) (h1 : x ≤ 500) : wrap64 (x / (g : Int)) = x / (g : Int) := by
  have e := quoW (g := g) h0 h1
  rw [Int.tdiv_eq_ediv_of_nonneg h0] at e
  rw [← IntWalk.i64_left]
  exact e
noncomputable def ratR (W H : Int) (L : List Sq) : Int × Int × Bool := if dc (Good W H L) then (W / (Nat.gcd W.toNat H.toNat : Int), H / (Nat.gcd W.toNat H.toNat : Int), true) else (0, 0, false)
theorem ratR_yes {W H : Int} {L : List Sq} (h : Good W H L) : ratR W H L = (W / (Nat.gcd W.toNat H.toNat : Int), H / (Nat.gcd W.toNat H.toNat : Int), true) := by simp [ratR, dc_true h]
theorem ratR_no {W H : Int} {L : List Sq} (h : ¬ Good W H L) : ratR W H L = (0, 0, false) := by simp [ratR, dc_false h]
def RetRat (w : World) (r : Int × Int × Bool) (e : Ending) (w' : World) : Prop := e = .returned (.tuple #[.int .i64 r.1, .int .i64 r.2.1, .bool r.2.2]) ∧ Below w.heap.size w w'
set_option maxRecDepth 100000 in
theorem lowest_any (a b : Nat) (w : World) (ha : 1 ≤ a ∧ a ≤ 500) (hb : 1 ≤ b ∧ b ≤ 500) :
    Calls Try.prog 76 #[.int .i64 a, .int .i64 b] w fun e w' => e = .returned (.tuple #[.int .i64 ((a : Int) / (Nat.gcd a b : Int)), .int .i64 ((b : Int) / (Nat.gcd a b : Int))]) ∧ Below w.heap.size w w' := by
  obtain ⟨g, hg⟩ : ∃ g, Nat.gcd a b = g := ⟨_, rfl⟩
  have hg0 : 1 ≤ g := by rw [← hg]; exact Nat.gcd_pos_of_pos_left _ (by omega)
  have hc := implGcd_any a b w ha.2 hb.2
  rw [hg] at hc ⊢
  have HC := Lib.hid hc
  clear hc hg
  have e0 : wrap64 ((a : Int) / (g : Int)) = (a : Int) / (g : Int) := quoW2 (by omega) (by omega)
  have e1 : wrap64 ((b : Int) / (g : Int)) = (b : Int) / (g : Int) := quoW2 (by omega) (by omega)
  have g0 : (g : Int) ≠ 0 := by omega
  go_enter Try.func76, Try.ntmps76
  go_wp2_with fail
  refine HC.out.mono ?_
  rintro e w2 ⟨rfl, hb2⟩
  clear HC
  go_wp2_with fail
  go_region
  go_wp2_with fail
  rw [e0, e1]
  go_ret2
  exact ⟨rfl, hb2.drew⟩
set_option maxRecDepth 100000 in
set_option maxHeartbeats 2000000 in
theorem implRat_any (W H : Int) (A : Option Addr) (n c : Nat) (L : List Sq) (w : World) (hl : L.length = n) (hc : n ≤ c) (hL : SqsAt w w.heap.size A L) (hwf : ∀ s ∈ L, wfS s) :
    Calls Try.prog 36 #[.agg #[.int .i64 W, .int .i64 H, .slice A n c]] w (RetRat w (ratR W H L)) := by
  subst hl
  have Z0 : Box w.heap.size w (w.alloc (.cells #[.int .i64 W, .int .i64 H, .slice A L.length c] 28)) W H A c L := Box.start hL
  obtain ⟨W1, hW1⟩ : ∃ W1, W1 = w.alloc (.cells #[.int .i64 W, .int .i64 H, .slice A L.length c] 28) := ⟨_, rfl⟩
  rw [← hW1] at Z0
  obtain ⟨hB1, hz1, b0, b1, b2, hL1⟩ := id Z0
  by_cases hG : Good W H L
  · rw [ratR_yes hG]
    obtain ⟨p, rfl⟩ := Int.eq_ofNat_of_zero_le (show 0 ≤ W by have := hG.1; omega)
    obtain ⟨q, rfl⟩ := Int.eq_ofNat_of_zero_le (show 0 ≤ H by have := hG.2.1; omega)
    have hp : 1 ≤ p ∧ p ≤ 500 := by have := hG.1; omega
    have hq : 1 ≤ q ∧ q ≤ 500 := by have := hG.2.1; omega
    rw [Int.toNat_natCast, Int.toNat_natCast]
    obtain ⟨x, hx⟩ : ∃ x, (p : Int) / (Nat.gcd p q : Int) = x := ⟨_, rfl⟩
    obtain ⟨y, hy⟩ : ∃ y, (q : Int) / (Nat.gcd p q : Int) = y := ⟨_, rfl⟩
    have HLow : Hid (∀ w : World, Calls Try.prog 76 #[.int .i64 p, .int .i64 q] w fun e w' => e = .returned (.tuple #[.int .i64 x, .int .i64 y]) ∧ Below w.heap.size w w') := Lib.hid fun w => by
      have := lowest_any p q w hp hq
      rwa [hx, hy] at this
    rw [hx, hy]
    clear hx hy
    go_enter Try.func36, Try.ntmps36
    go_wp2_with fail
    rw [← hW1]
    clear hW1
    refine (callB_yes (isCut_good _ _ A _ c L _ rfl hc (hL1.mono hB1.size) hwf) hG).mono ?_
    rintro e w2 ⟨rfl, hb2⟩
    have Z2 := Z0.next hb2
    clear hb2 Z0 b0 b1 b2 hL1 hB1 hz1 hG
    obtain ⟨hB2, hz2, b0, b1, b2, hL2⟩ := id Z2
    go_wp2_with fail
    refine (HLow.out _).mono ?_
    rintro e w3 ⟨rfl, hb3⟩
    have hB3 := hB2.trans (hb3.mono hB2.size)
    clear HLow b0 b1 b2
    go_wp2_with fail
    refine bodyPost_ret (v := .tuple #[.int .i64 x, .int .i64 y, .bool true]) (by simp [results, Try.results36, go_sem]) rfl ?_
    exact ⟨rfl, hB3⟩
  · rw [ratR_no hG]
    go_enter Try.func36, Try.ntmps36
    go_wp2_with fail
    rw [← hW1]
    clear hW1
    refine (callB_no (isCut_good _ _ A _ c L _ rfl hc (hL1.mono hB1.size) hwf) hG).mono ?_
    rintro e w2 ⟨rfl, hb2⟩
    have hB2 := hB1.trans (hb2.mono hB1.size)
    go_wp2_with fail
    refine bodyPost_ret (v := .tuple #[.int .i64 0, .int .i64 0, .bool false]) (by simp [results, Try.results36, go_sem]) rfl ?_
    exact ⟨rfl, hB2⟩
set_option maxRecDepth 100000 in
set_option maxHeartbeats 2000000 in
theorem specRat_any (W H : Int) (A : Option Addr) (n c : Nat) (L : List Sq) (w : World) (hl : L.length = n) (hc : n ≤ c) (hL : SqsAt w w.heap.size A L) :
    Calls Try.prog 35 #[.agg #[.int .i64 W, .int .i64 H, .slice A n c]] w (RetRat w (ratR W H L)) := by
  subst hl
  have Z0 : Box w.heap.size w (w.alloc (.cells #[.int .i64 W, .int .i64 H, .slice A L.length c] 28)) W H A c L := Box.start hL
  obtain ⟨W1, hW1⟩ : ∃ W1, W1 = w.alloc (.cells #[.int .i64 W, .int .i64 H, .slice A L.length c] 28) := ⟨_, rfl⟩
  rw [← hW1] at Z0
  obtain ⟨hB1, hz1, b0, b1, b2, hL1⟩ := id Z0
  by_cases hG : Good W H L
  · rw [ratR_yes hG]
    obtain ⟨p, rfl⟩ := Int.eq_ofNat_of_zero_le (show 0 ≤ W by have := hG.1; omega)
    obtain ⟨q, rfl⟩ := Int.eq_ofNat_of_zero_le (show 0 ≤ H by have := hG.2.1; omega)
    have hp : 1 ≤ p ∧ p ≤ 500 := by have := hG.1; omega
    have hq : 1 ≤ q ∧ q ≤ 500 := by have := hG.2.1; omega
    rw [Int.toNat_natCast, Int.toNat_natCast]
    obtain ⟨g, hg⟩ : ∃ g, Nat.gcd p q = g := ⟨_, rfl⟩
    have hg0 : 1 ≤ g := by rw [← hg]; exact Nat.gcd_pos_of_pos_left _ (by omega)
    have HGc : Hid (∀ w : World, Calls Try.prog 75 #[.int .i64 p, .int .i64 q] w fun e w' => e = .returned (.int .i64 (g : Int)) ∧ Below w.heap.size w w') := Lib.hid fun w => by
      have := specGcd_any p q w hp.2 hq.2
      rwa [hg] at this
    rw [hg]
    clear hg
    have e0 : wrap64 ((p : Int) / (g : Int)) = (p : Int) / (g : Int) := quoW2 (by omega) (by omega)
    have e1 : wrap64 ((q : Int) / (g : Int)) = (q : Int) / (g : Int) := quoW2 (by omega) (by omega)
    have g0 : (g : Int) ≠ 0 := by omega
    go_enter Try.func35, Try.ntmps35
    go_wp2_with fail
    rw [← hW1]
    clear hW1
    refine (callB_yes (cuGood_any _ _ A _ c L _ rfl hc (hL1.mono hB1.size)) hG).mono ?_
    rintro e w2 ⟨rfl, hb2⟩
    have Z2 := Z0.next hb2
    clear hb2 Z0 b0 b1 b2 hL1 hB1 hz1 hG
    obtain ⟨hB2, hz2, b0, b1, b2, hL2⟩ := id Z2
    go_wp2_with fail
    refine (HGc.out _).mono ?_
    rintro e w3 ⟨rfl, hb3⟩
    have Z3 := Z2.next hb3
    clear HGc b0 b1 b2 Z2 hL2 hB2
    obtain ⟨hB3, hz3, b0, b1, b2, hL3⟩ := id Z3
    go_wp2_with fail
    go_region
    go_wp2_with fail
    rw [e0, e1]
    refine bodyPost_ret (v := .tuple #[.int .i64 ((p : Int) / (g : Int)), .int .i64 ((q : Int) / (g : Int)), .bool true]) (by simp [results, Try.results35, go_sem]) rfl ?_
    exact ⟨rfl, hB3.drew⟩
  · rw [ratR_no hG]
    go_enter Try.func35, Try.ntmps35
    go_wp2_with fail
    rw [← hW1]
    clear hW1
    refine (callB_no (cuGood_any _ _ A _ c L _ rfl hc (hL1.mono hB1.size)) hG).mono ?_
    rintro e w2 ⟨rfl, hb2⟩
    have hB2 := hB1.trans (hb2.mono hB1.size)
    go_wp2_with fail
    refine bodyPost_ret (v := .tuple #[.int .i64 0, .int .i64 0, .bool false]) (by simp [results, Try.results35, go_sem]) rfl ?_
    exact ⟨rfl, hB2⟩
end Go.Proofs.Ytnnhgblgbbfmpaa
