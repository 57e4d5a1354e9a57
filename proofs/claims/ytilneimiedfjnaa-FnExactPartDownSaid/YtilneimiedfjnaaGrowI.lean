/- Contract of the program's GrowCut. -/
import Derived.Test.YtilneimiedfjnaaGrowT
set_option linter.all false
namespace Go.Proofs.Ytilneimiedfjnaa
open Go.RowKit

theorem flat_grow_succ (k0 : Int) (L : List Sq) (k : Nat) (s : Sq) (h : L[k]? = some s) : flat (growL k0 (L.take (k + 1))) = flat (growL k0 (L.take k)) ++ [.int .i64 (k0 * s.x), .int .i64 (k0 * s.y), .int .i64 (k0 * s.d)] := flat_map_succ (growS k0) L k s h
theorem mul_bd {k x M : Int} (hk : 1 ≤ k) (h0 : 0 ≤ x) (h1 : x ≤ M) (hM : k * M ≤ 500) : 0 ≤ k * x ∧ k * x ≤ 500 :=
  ⟨Int.mul_nonneg (by omega) h0, Int.le_trans ((mul_le hk).2 h1) hM⟩

set_option maxRecDepth 100000 in
set_option maxHeartbeats 1000000 in
theorem implGrown_any (W H : Int) (A : Option Addr) (n c : Nat) (L : List Sq) (k0 : Int) (w : World) (hl : L.length = n) (hc : n ≤ c) (hL : SqsAt w w.heap.size A L) (hG : Good W H L) (hk1 : 1 ≤ k0) (hkW : k0 * W ≤ 500) (hkH : k0 * H ≤ 500) :
    Calls Try.prog 69 #[.agg #[.int .i64 W, .int .i64 H, .slice A n c], .int .i64 k0, .int .i64 1] w fun e w' =>
      ∃ A' c', e = .returned (.agg #[.int .i64 (k0 * W), .int .i64 (k0 * H), .slice A' L.length c']) ∧ w'.ownsRow w.heap.size 65 3 (.slice A' L.length c') L.length (flat (growL k0 L)) ∧ Below w.heap.size w w' := by
  subst hl
  obtain ⟨i0, hi, hz0, hz1, hz2⟩ := info_parts infoSq
  have hb0 : ∀ o : Obj, Below w.heap.size w (w.alloc o) := fun o => (Below.refl _ _).alloc (Nat.le_refl _) o
  have Z0 : Box w.heap.size w (w.alloc (.cells #[.int .i64 W, .int .i64 H, .slice A L.length c] 29)) W H A c L := Box.start hL
  have hg30 := hG.2.2.1.2
  have hW := hG.1
  have hH := hG.2.1
  have Z1 := Z0.next ((Below.refl _ _).alloc (Nat.le_refl _) (.cells #[.int .i64 0, .int .i64 0, .slice none 0 0] 29))
  have q1 : Bx (w.heap.size + 1) ((w.alloc (.cells #[.int .i64 W, .int .i64 H, .slice A L.length c] 29)).alloc (.cells #[.int .i64 0, .int .i64 0, .slice none 0 0] 29)) 0 0 none 0 0 := by simpa using Bx.start (w.alloc (.cells #[.int .i64 W, .int .i64 H, .slice A L.length c] 29)) 0 0 none 0 0 29
  obtain ⟨W1, hW1⟩ : ∃ W1, W1 = ((w.alloc (.cells #[.int .i64 W, .int .i64 H, .slice A L.length c] 29)).alloc (.cells #[.int .i64 0, .int .i64 0, .slice none 0 0] 29)) := ⟨_, rfl⟩
  have hz : W1.heap.size = w.heap.size + 2 := by rw [hW1]; simp
  rw [← hW1] at Z1 q1
  have qf : ∀ o, W1.frozen? ⟨w.heap.size + 1, o, none⟩ = false := by intro o; rw [hW1]; exact World.frozen?_alloc_at _ _ _ _ (by simp)
  obtain ⟨hB1, hz1', b0, b1, b2, hL1⟩ := id Z1
  go_enter Try.func69, Try.ntmps69
  go_wp2_with (at_make; rw [← hW1]; refine wpList_make_full _ rfl _ _ 27 rfl (w.heap.size + 2) 65 i0 (.agg #[.int .i64 0, .int .i64 0, .int .i64 0]) 3 Try.underlying27 hi hz0 hz1 .i64 .i64 L.length L.length L.length rfl rfl rfl rfl (by rw [hz2]; omega) (by unfold maxLen; omega) (Nat.le_of_eq hz.symm) ?_; rw [hz]; intro w2 hown hgrow; have hb2 : Below W1.heap.size W1 w2 := (Below.refl _ _).grown hgrow (Nat.le_refl _) (by simp); have d2 := (hb2.cell (p := ⟨w.heap.size, 2, none⟩) hz1').trans b2)
  have hb2 : Below (w.heap.size + 2) W1 w2 := hb2.mono (Nat.le_of_eq hz.symm)
  have hs2 : w.heap.size + 2 < w2.heap.size := (own_lt hown).2
  clear d2 hgrow b0 b1 b2 hL1 Z0 hW1
  have Z2 : Box w.heap.size w w2 W H A c L := Z1.keep hb2 (by omega) (by omega)
  go_loopw [17] (fun i wr => ∃ k : Nat, k ≤ L.length ∧ i = .int .i64 k ∧ Below (w.heap.size + 2) W1 wr ∧ w.heap.size + 2 < wr.heap.size ∧ ∃ xs, wr.ownsRow (w.heap.size + 2) 65 3 (.slice (some ⟨w.heap.size + 2, 0, none⟩) L.length L.length) L.length xs ∧ xs.take (k * 3) = flat (growL k0 (L.take k))) (fun i _ => L.length - (intOf i).toNat)
  case atStart => exact ⟨0, Nat.zero_le _, rfl, hb2, hs2, _, hown, by simp [flat, growL]⟩
  case round =>
    obtain ⟨k, hk, rfl, hbr, hzr, xs, hown1, htake⟩ := hrel
    by_cases hlt : k < L.length
    · obtain ⟨s, hs⟩ : ∃ s, L[k]? = some s := ⟨_, List.getElem?_eq_getElem hlt⟩
      obtain ⟨b, off, rfl, hb, c0, c1, c2⟩ := (hL.below (hB1.trans (hbr.mono (by omega)))) k s hs
      have hok := (hG.2.2.2.1 k s hs)
      have hin : Within s W H := hok.1
      unfold Within at hin
      have HS := Lib.hid hs
      have HT := Lib.hid htake
      clear hs hL Z1 Z2 hown htake hok q1 hG
      go_wp2_with fail
      obtain ⟨w3, hw3⟩ : ∃ w3, w3 = wr.alloc (.cells #[.int .i64 s.x, .int .i64 s.y, .int .i64 s.d] 65) := ⟨_, rfl⟩
      have hb3 : Below wr.heap.size wr w3 := by rw [hw3]; exact (Below.refl _ _).alloc (Nat.le_refl _) _
      have x0 : w3.cell? ⟨wr.heap.size, 0, none⟩ = some (.int .i64 s.x) := by rw [hw3]; simp
      have x1 : w3.cell? ⟨wr.heap.size, 1, none⟩ = some (.int .i64 s.y) := by rw [hw3]; simp
      have x2 : w3.cell? ⟨wr.heap.size, 2, none⟩ = some (.int .i64 s.d) := by rw [hw3]; simp
      have hown2 := own_keep hown1 hb3
      obtain ⟨v0, e0⟩ := own_some hown2 (j := k * 3) (by omega)
      obtain ⟨v1, e1⟩ := own_some hown2 (j := k * 3 + 1) (by omega)
      obtain ⟨v2, e2⟩ := own_some hown2 (j := k * 3 + 2) (by omega)
      have f0 := hown2.frozenAt (k * 3)
      have f1 := hown2.frozenAt (k * 3 + 1)
      have f2 := hown2.frozenAt (k * 3 + 2)
      have m0 := mul_bd hk1 hin.2.1 (show s.x ≤ W by omega) hkW
      have m1 := mul_bd hk1 hin.2.2.2.1 (show s.y ≤ H by omega) hkH
      have m2 := mul_bd hk1 (show 0 ≤ s.d by omega) (show s.d ≤ W by omega) hkW
      obtain ⟨m0, m0'⟩ := m0
      obtain ⟨m1, m1'⟩ := m1
      obtain ⟨m2, m2'⟩ := m2
      have cx : s.x * k0 = k0 * s.x := Int.mul_comm _ _
      have cy : s.y * k0 = k0 * s.y := Int.mul_comm _ _
      have cd : s.d * k0 = k0 * s.d := Int.mul_comm _ _
      have kz : (0 : Int) ≤ (k : Int) := by omega
      have k1 : (k : Int) < (L.length : Int) := by omega
      rw [← hw3]
      clear hw3 c0 c1 c2
      go_region
      go_wp2_with fail
      have hx := hown1.1
      have R := ((((hown2.stored (k * 3) (.int .i64 (k0 * s.x))).1).stored (k * 3 + 1) (.int .i64 (k0 * s.y))).1.stored (k * 3 + 2) (.int .i64 (k0 * s.d))).1
      have hB := ((((hbr.trans (hb3.mono (by omega))).setCell (p := ⟨w.heap.size + 2, k * 3, none⟩) (Nat.le_refl _) (.int .i64 (k0 * s.x))).setCell (p := ⟨w.heap.size + 2, k * 3 + 1, none⟩) (Nat.le_refl _) (.int .i64 (k0 * s.y))).setCell (p := ⟨w.heap.size + 2, k * 3 + 2, none⟩) (Nat.le_refl _) (.int .i64 (k0 * s.d))).drew
      have hs3 := hb3.size
      exact ⟨⟨k + 1, by omega, rfl, hB, by simp; omega, _, own_keep R (Below.refl _ _).drew, by rw [take_set3 _ _ _ _ _ (by omega), HT.out, flat_grow_succ k0 L k s HS.out]⟩, by simp [intOf]; omega⟩
    · obtain rfl : k = L.length := by omega
      have hx := hown1.1
      rw [List.take_of_length_le (by omega), List.take_of_length_le (Nat.le_refl _)] at htake
      subst htake
      have Zr := Z1.keep hbr (by omega) (by omega)
      obtain ⟨_, _, b0, b1, _, _⟩ := id Zr
      have r0 := (hbr.cell (p := ⟨w.heap.size + 1, 0, none⟩) (by simp)).trans q1.c0
      have r1 := (hbr.cell (p := ⟨w.heap.size + 1, 1, none⟩) (by simp)).trans q1.c1
      have r2 := (hbr.cell (p := ⟨w.heap.size + 1, 2, none⟩) (by simp)).trans q1.c2
      have t0 := (hbr.frozen (p := ⟨w.heap.size + 1, 0, none⟩) (by simp)).trans (qf 0)
      have t1 := (hbr.frozen (p := ⟨w.heap.size + 1, 1, none⟩) (by simp)).trans (qf 1)
      have t2 := (hbr.frozen (p := ⟨w.heap.size + 1, 2, none⟩) (by simp)).trans (qf 2)
      have m0 : 0 ≤ k0 * W := Int.mul_nonneg (by omega) (by omega)
      have m1 : 0 ≤ k0 * H := Int.mul_nonneg (by omega) (by omega)
      have cx : W * k0 = k0 * W := Int.mul_comm _ _
      have cy : H * k0 = k0 * H := Int.mul_comm _ _
      clear hL Zr Z1 Z2 hG hown hb0 q1
      go_wp2_with fail
      go_region
      go_wp2_with fail
      have hB := (((((hbr.mono (B' := w.heap.size + 1) (by omega)).setCell (p := ⟨w.heap.size + 1, 0, none⟩) (Nat.le_refl _) (.int .i64 (k0 * W))).setCell (p := ⟨w.heap.size + 1, 1, none⟩) (Nat.le_refl _) (.int .i64 (k0 * H))).setCell (p := ⟨w.heap.size + 1, 2, none⟩) (Nat.le_refl _) (.slice (some ⟨w.heap.size + 2, 0, none⟩) L.length L.length))).drew
      have R := ownsRow_setCell_below (ownsRow_setCell_below (ownsRow_setCell_below hown1 (a := ⟨w.heap.size + 1, 0, none⟩) (by simp) (.int .i64 (k0 * W))) (a := ⟨w.heap.size + 1, 1, none⟩) (by simp) (.int .i64 (k0 * H))) (a := ⟨w.heap.size + 1, 2, none⟩) (by simp) (.slice (some ⟨w.heap.size + 2, 0, none⟩) L.length L.length)
      refine bodyPost_ret (v := .agg #[.int .i64 (k0 * W), .int .i64 (k0 * H), .slice (some ⟨w.heap.size + 2, 0, none⟩) L.length L.length]) (by simp [results, Try.results69, go_sem, r0, r1, r2]) rfl ?_
      exact ⟨_, _, rfl, own_base R.drew (by omega), hB1.trans (hB.mono (by omega))⟩
end Go.Proofs.Ytilneimiedfjnaa
