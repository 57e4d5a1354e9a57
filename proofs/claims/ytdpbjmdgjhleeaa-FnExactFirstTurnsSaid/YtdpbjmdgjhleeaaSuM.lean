/- TurnT, TurnU: texts in one. -/
import Derived.Test.YtdpbjmdgjhleeaaSrtT
import Derived.Test.YtdpbjmdgjhleeaaTuM
set_option linter.all false
namespace Go.Proofs.Ytdpbjmdgjhleeaa
open Go.RowKit

theorem new3' (w : World) (o : Obj) (a b c : Value) (t : TypeId) : ∀ j u, [a, b, c][j]? = some u → ((w.alloc o).alloc (.cells #[a, b, c] t)).cell? ((⟨w.heap.size + 1, 0, none⟩ : Addr).add j) = some u := by
  have := new3 (w.alloc o) a b c t
  simpa using this
/-- What a region may lean on: below block B all is as it was in Wc, its marks too. -/
theorem keepF {B : Nat} {Wc wp w' : World} (hS : Below B Wc wp ∧ B ≤ wp.heap.size ∧ (∀ b o, b < B → wp.cell? ⟨b, o, none⟩ = Wc.cell? ⟨b, o, none⟩) ∧ (∀ b o, b < B → wp.frozen? ⟨b, o, none⟩ = Wc.frozen? ⟨b, o, none⟩)) (hb : Below wp.heap.size wp w') :
    Below B Wc w' ∧ B ≤ w'.heap.size ∧ (∀ b o, b < B → w'.cell? ⟨b, o, none⟩ = Wc.cell? ⟨b, o, none⟩) ∧ (∀ b o, b < B → w'.frozen? ⟨b, o, none⟩ = Wc.frozen? ⟨b, o, none⟩) :=
  ⟨hS.1.trans (hb.mono hS.2.1), Nat.le_trans hS.2.1 hb.size, fun b o h => (hb.cell (p := ⟨b, o, none⟩) (Nat.lt_of_lt_of_le h hS.2.1)).trans (hS.2.2.1 b o h), fun b o h => (hb.frozen (p := ⟨b, o, none⟩) (Nat.lt_of_lt_of_le h hS.2.1)).trans (hS.2.2.2 b o h)⟩
theorem belowF {B : Nat} {Wc wp : World} (hS : Below B Wc wp ∧ B ≤ wp.heap.size ∧ (∀ b o, b < B → wp.cell? ⟨b, o, none⟩ = Wc.cell? ⟨b, o, none⟩) ∧ (∀ b o, b < B → wp.frozen? ⟨b, o, none⟩ = Wc.frozen? ⟨b, o, none⟩)) : Below B Wc wp := hS.1

set_option maxRecDepth 100000 in
set_option maxHeartbeats 2000000 in
theorem cuTurn_any (W H : Int) (A : Option Addr) (n c : Nat) (L : List Sq) (w : World) (hl : L.length = n) (hc : n ≤ c) (hL : SqsAt w w.heap.size A L) (hG : Good W H L) :
    Calls Try.prog 105 #[.agg #[.int .i64 W, .int .i64 H, .slice A n c]] w (RetOrd w w.heap.size H W (turnL H L)) := by
  subst hl
  obtain ⟨i0, hi, hz0, hz1, hz2⟩ := info_parts infoSq
  have Z0 : Box w.heap.size w (w.alloc (.cells #[.int .i64 W, .int .i64 H, .slice A L.length c] 28)) W H A c L := Box.start hL
  have hg30 := hG.2.2.1.2
  have hW := hG.1
  have hH := hG.2.1
  have Z1 := Z0.next ((Below.refl _ _).alloc (Nat.le_refl _) (.cells #[.int .i64 0, .int .i64 0, .slice none 0 0] 28))
  have q1 : Bx (w.heap.size + 1) ((w.alloc (.cells #[.int .i64 W, .int .i64 H, .slice A L.length c] 28)).alloc (.cells #[.int .i64 0, .int .i64 0, .slice none 0 0] 28)) 0 0 none 0 0 := by simpa using Bx.start (w.alloc (.cells #[.int .i64 W, .int .i64 H, .slice A L.length c] 28)) 0 0 none 0 0 28
  obtain ⟨W1, hW1⟩ : ∃ W1, W1 = ((w.alloc (.cells #[.int .i64 W, .int .i64 H, .slice A L.length c] 28)).alloc (.cells #[.int .i64 0, .int .i64 0, .slice none 0 0] 28)) := ⟨_, rfl⟩
  have hz : W1.heap.size = w.heap.size + 2 := by rw [hW1]; simp
  rw [← hW1] at Z1 q1
  have qf : ∀ o, W1.frozen? ⟨w.heap.size + 1, o, none⟩ = false := by intro o; rw [hW1]; exact World.frozen?_alloc_at _ _ _ _ (by simp)
  obtain ⟨hB1, hz1', b0, b1, b2, hL1⟩ := id Z1
  go_enter Try.func105, Try.ntmps105
  go_wp2_with fail
  rw [← hW1]
  clear b0 b1 b2 hL1 Z0 hW1
  go_loopw [3, 9] (fun v i wr => ∃ k : Nat, k ≤ L.length ∧ i = .int .i64 k ∧ Below (w.heap.size + 2) W1 wr ∧ w.heap.size + 2 ≤ wr.heap.size ∧ wr.ownsRow (w.heap.size + 2) 85 3 v k (flat (turnL H (L.take k)))) (fun _ i _ => L.length - (intOf i).toNat)
  case atStart => exact ⟨0, Nat.zero_le _, rfl, Below.refl _ _, Nat.le_of_eq hz.symm, World.ownsRow_nil _ _ _ _⟩
  case round =>
    obtain ⟨k, hk, rfl, hbr, hzr, hown1⟩ := hrel
    have Zr := Z1.keep hbr (by omega) (by omega)
    obtain ⟨_, hzw, b0, b1, b2, hLr⟩ := id Zr
    by_cases hlt : k < L.length
    · obtain ⟨s, hs⟩ : ∃ s, L[k]? = some s := ⟨_, List.getElem?_eq_getElem hlt⟩
      obtain ⟨b, off, rfl, hb, c0, c1, c2⟩ := hLr k s hs
      have hin : Within s W H := (hG.2.2.2.1 k s hs).1
      unfold Within at hin
      have HS := Lib.hid hs
      clear hs hL Z1 q1 hG hLr Zr
      have k0 : (0 : Int) ≤ (k : Int) := by omega
      have k1 : (k : Int) < (L.length : Int) := by omega
      have hbl : k + 1 ≤ maxLen := by unfold maxLen; omega
      have hby : (k + 1) * 24 ≤ 140737488355328 := by omega
      obtain ⟨A3, c3, rfl⟩ := own_val hown1
      go_wp2_with (at_builtin; refine app_list rfl _ _ _ rfl (w.heap.size + 2) 85 i0 (.agg #[.int .i64 0, .int .i64 0, .int .i64 0]) 3 24 Try.underlying26 hi hz0 hz1 hz2 rfl (by decide) (.slice A3 k c3) k _ rfl ((hown1.alloc _).alloc _) (some ⟨wr.heap.size + 1, 0, none⟩) 1 1 [.int .i64 (H - s.y - s.d), .int .i64 (s.x), .int .i64 (s.d)] rfl rfl (.inr ⟨_, rfl, new3' _ _ _ _ _ _⟩) (one3 _ _ _) hbl hby (by simp; omega) ?_; intro v' w4 hown4 hgr4 _; have hb4 : Below (w.heap.size + 2) W1 w4 := ((hbr.alloc hzr _).alloc (by simp; omega) _).grown hgr4 (by simp; omega) (fun kk hkk => (hown1.lt kk hkk).1))
      go_roundw
      case rel =>
        refine ⟨k + 1, by omega, by go_num, hb4, by have := hgr4.size; simp at this; omega, ?_⟩
        have e := flat_map_succ (turnS H) L k s HS.out
        unfold turnL at hown4 ⊢
        rw [e]
        exact hown4
      case measure => simp [intOf]; omega
    · obtain rfl : k = L.length := by omega
      rw [List.take_of_length_le (Nat.le_refl _)] at hown1
      obtain ⟨A3, c3, rfl⟩ := own_val hown1
      have hll : (turnL H L).length = L.length := by simp [turnL]
      have hsq := sqs_of_own hown1
      have r0 := (hbr.cell (p := ⟨w.heap.size + 1, 0, none⟩) (by simp)).trans q1.c0
      have r1 := (hbr.cell (p := ⟨w.heap.size + 1, 1, none⟩) (by simp)).trans q1.c1
      have r2 := (hbr.cell (p := ⟨w.heap.size + 1, 2, none⟩) (by simp)).trans q1.c2
      have t0 := (hbr.frozen (p := ⟨w.heap.size + 1, 0, none⟩) (by simp)).trans (qf 0)
      have t1 := (hbr.frozen (p := ⟨w.heap.size + 1, 1, none⟩) (by simp)).trans (qf 1)
      have t2 := (hbr.frozen (p := ⟨w.heap.size + 1, 2, none⟩) (by simp)).trans (qf 2)
      have hzr1 : w.heap.size + 1 < wr.heap.size := by omega
      have hB1' := hB1.trans (hbr.mono (by omega))
      clear hL Zr Z1 hG q1 hLr qf hbr b2
      go_wp2_with fail
      have CS := cuSorted_any A3 L.length c3 (turnL H L) wr.drew hll hg30 hsq
      clear hsq
      go_region_with ((go_at_call 95; refine CS.mono ?_; rintro e w5 ⟨A5, c5, T, rfl, hp5, hs5, ho5, hb5⟩; have b0' := (hb5.cell (p := ⟨w.heap.size, 0, none⟩) hzw).trans b0; have b1' := (hb5.cell (p := ⟨w.heap.size, 1, none⟩) hzw).trans b1; have r0' := (hb5.cell (p := ⟨w.heap.size + 1, 0, none⟩) hzr1).trans r0; have r1' := (hb5.cell (p := ⟨w.heap.size + 1, 1, none⟩) hzr1).trans r1; have r2' := (hb5.cell (p := ⟨w.heap.size + 1, 2, none⟩) hzr1).trans r2; have t0' := (hb5.frozen (p := ⟨w.heap.size + 1, 0, none⟩) hzr1).trans t0; have t1' := (hb5.frozen (p := ⟨w.heap.size + 1, 1, none⟩) hzr1).trans t1; have t2' := (hb5.frozen (p := ⟨w.heap.size + 1, 2, none⟩) hzr1).trans t2))
      all_goals
        clear r0 r1 r2 t0 t1 t2
        go_wp2_with fail
        have hs5' : wr.heap.size ≤ w5.heap.size := hb5.size
        have ho5' : w5.ownsRow wr.heap.size 85 3 (.slice A5 (turnL H L).length c5) (turnL H L).length (flat T) := ho5
        rw [hll] at ho5'
        have hb5' : Below wr.heap.size wr w5 := ⟨hb5.os, hb5.tape, hb5.output, hb5.size, hb5.block⟩
        have hB := ((hB1'.trans (hb5'.mono (by omega))).setCell (p := ⟨w.heap.size + 1, 0, none⟩) (by simp) (.int .i64 H)).setCell (p := ⟨w.heap.size + 1, 1, none⟩) (by simp) (.int .i64 W) |>.setCell (p := ⟨w.heap.size + 1, 2, none⟩) (by simp) (.slice A5 L.length c5)
        have R := ownsRow_setCell_below (ownsRow_setCell_below (ownsRow_setCell_below ho5' (a := ⟨w.heap.size + 1, 0, none⟩) hzr1 (.int .i64 H)) (a := ⟨w.heap.size + 1, 1, none⟩) hzr1 (.int .i64 W)) (a := ⟨w.heap.size + 1, 2, none⟩) hzr1 (.slice A5 L.length c5)
        refine bodyPost_ret (v := .agg #[.int .i64 H, .int .i64 W, .slice A5 L.length c5]) (by simp [results, Try.results105, go_sem, r0', r1', r2']) rfl ?_
        exact ⟨A5, c5, T, by rw [hll], hp5, hs5, by rw [hll]; exact own_base R (by omega), hB⟩

set_option maxRecDepth 100000 in
set_option maxHeartbeats 2000000 in
theorem cuMirror_any (W H : Int) (A : Option Addr) (n c : Nat) (L : List Sq) (w : World) (hl : L.length = n) (hc : n ≤ c) (hL : SqsAt w w.heap.size A L) (hG : Good W H L) :
    Calls Try.prog 48 #[.agg #[.int .i64 W, .int .i64 H, .slice A n c]] w (RetOrd w w.heap.size W H (mirL W L)) := by
  subst hl
  obtain ⟨i0, hi, hz0, hz1, hz2⟩ := info_parts infoSq
  have Z0 : Box w.heap.size w (w.alloc (.cells #[.int .i64 W, .int .i64 H, .slice A L.length c] 28)) W H A c L := Box.start hL
  have hg30 := hG.2.2.1.2
  have hW := hG.1
  have hH := hG.2.1
  have Z1 := Z0.next ((Below.refl _ _).alloc (Nat.le_refl _) (.cells #[.int .i64 0, .int .i64 0, .slice none 0 0] 28))
  have q1 : Bx (w.heap.size + 1) ((w.alloc (.cells #[.int .i64 W, .int .i64 H, .slice A L.length c] 28)).alloc (.cells #[.int .i64 0, .int .i64 0, .slice none 0 0] 28)) 0 0 none 0 0 := by simpa using Bx.start (w.alloc (.cells #[.int .i64 W, .int .i64 H, .slice A L.length c] 28)) 0 0 none 0 0 28
  obtain ⟨W1, hW1⟩ : ∃ W1, W1 = ((w.alloc (.cells #[.int .i64 W, .int .i64 H, .slice A L.length c] 28)).alloc (.cells #[.int .i64 0, .int .i64 0, .slice none 0 0] 28)) := ⟨_, rfl⟩
  have hz : W1.heap.size = w.heap.size + 2 := by rw [hW1]; simp
  rw [← hW1] at Z1 q1
  have qf : ∀ o, W1.frozen? ⟨w.heap.size + 1, o, none⟩ = false := by intro o; rw [hW1]; exact World.frozen?_alloc_at _ _ _ _ (by simp)
  obtain ⟨hB1, hz1', b0, b1, b2, hL1⟩ := id Z1
  go_enter Try.func48, Try.ntmps48
  go_wp2_with fail
  rw [← hW1]
  clear b0 b1 b2 hL1 Z0 hW1
  go_loopw [3, 9] (fun v i wr => ∃ k : Nat, k ≤ L.length ∧ i = .int .i64 k ∧ Below (w.heap.size + 2) W1 wr ∧ w.heap.size + 2 ≤ wr.heap.size ∧ wr.ownsRow (w.heap.size + 2) 85 3 v k (flat (mirL W (L.take k)))) (fun _ i _ => L.length - (intOf i).toNat)
  case atStart => exact ⟨0, Nat.zero_le _, rfl, Below.refl _ _, Nat.le_of_eq hz.symm, World.ownsRow_nil _ _ _ _⟩
  case round =>
    obtain ⟨k, hk, rfl, hbr, hzr, hown1⟩ := hrel
    have Zr := Z1.keep hbr (by omega) (by omega)
    obtain ⟨_, hzw, b0, b1, b2, hLr⟩ := id Zr
    by_cases hlt : k < L.length
    · obtain ⟨s, hs⟩ : ∃ s, L[k]? = some s := ⟨_, List.getElem?_eq_getElem hlt⟩
      obtain ⟨b, off, rfl, hb, c0, c1, c2⟩ := hLr k s hs
      have hin : Within s W H := (hG.2.2.2.1 k s hs).1
      unfold Within at hin
      have HS := Lib.hid hs
      clear hs hL Z1 q1 hG hLr Zr
      have k0 : (0 : Int) ≤ (k : Int) := by omega
      have k1 : (k : Int) < (L.length : Int) := by omega
      have hbl : k + 1 ≤ maxLen := by unfold maxLen; omega
      have hby : (k + 1) * 24 ≤ 140737488355328 := by omega
      obtain ⟨A3, c3, rfl⟩ := own_val hown1
      go_wp2_with (at_builtin; refine app_list rfl _ _ _ rfl (w.heap.size + 2) 85 i0 (.agg #[.int .i64 0, .int .i64 0, .int .i64 0]) 3 24 Try.underlying26 hi hz0 hz1 hz2 rfl (by decide) (.slice A3 k c3) k _ rfl ((hown1.alloc _).alloc _) (some ⟨wr.heap.size + 1, 0, none⟩) 1 1 [.int .i64 (W - s.x - s.d), .int .i64 (s.y), .int .i64 (s.d)] rfl rfl (.inr ⟨_, rfl, new3' _ _ _ _ _ _⟩) (one3 _ _ _) hbl hby (by simp; omega) ?_; intro v' w4 hown4 hgr4 _; have hb4 : Below (w.heap.size + 2) W1 w4 := ((hbr.alloc hzr _).alloc (by simp; omega) _).grown hgr4 (by simp; omega) (fun kk hkk => (hown1.lt kk hkk).1))
      go_roundw
      case rel =>
        refine ⟨k + 1, by omega, by go_num, hb4, by have := hgr4.size; simp at this; omega, ?_⟩
        have e := flat_map_succ (mirS W) L k s HS.out
        unfold mirL at hown4 ⊢
        rw [e]
        exact hown4
      case measure => simp [intOf]; omega
    · obtain rfl : k = L.length := by omega
      rw [List.take_of_length_le (Nat.le_refl _)] at hown1
      obtain ⟨A3, c3, rfl⟩ := own_val hown1
      have hll : (mirL W L).length = L.length := by simp [mirL]
      have hsq := sqs_of_own hown1
      have r0 := (hbr.cell (p := ⟨w.heap.size + 1, 0, none⟩) (by simp)).trans q1.c0
      have r1 := (hbr.cell (p := ⟨w.heap.size + 1, 1, none⟩) (by simp)).trans q1.c1
      have r2 := (hbr.cell (p := ⟨w.heap.size + 1, 2, none⟩) (by simp)).trans q1.c2
      have t0 := (hbr.frozen (p := ⟨w.heap.size + 1, 0, none⟩) (by simp)).trans (qf 0)
      have t1 := (hbr.frozen (p := ⟨w.heap.size + 1, 1, none⟩) (by simp)).trans (qf 1)
      have t2 := (hbr.frozen (p := ⟨w.heap.size + 1, 2, none⟩) (by simp)).trans (qf 2)
      have hzr1 : w.heap.size + 1 < wr.heap.size := by omega
      have hB1' := hB1.trans (hbr.mono (by omega))
      clear hL Zr Z1 hG q1 hLr qf hbr b2
      go_wp2_with fail
      have CS := cuSorted_any A3 L.length c3 (mirL W L) wr.drew hll hg30 hsq
      clear hsq
      go_region_with ((go_at_call 95; refine CS.mono ?_; rintro e w5 ⟨A5, c5, T, rfl, hp5, hs5, ho5, hb5⟩; have b0' := (hb5.cell (p := ⟨w.heap.size, 0, none⟩) hzw).trans b0; have b1' := (hb5.cell (p := ⟨w.heap.size, 1, none⟩) hzw).trans b1; have r0' := (hb5.cell (p := ⟨w.heap.size + 1, 0, none⟩) hzr1).trans r0; have r1' := (hb5.cell (p := ⟨w.heap.size + 1, 1, none⟩) hzr1).trans r1; have r2' := (hb5.cell (p := ⟨w.heap.size + 1, 2, none⟩) hzr1).trans r2; have t0' := (hb5.frozen (p := ⟨w.heap.size + 1, 0, none⟩) hzr1).trans t0; have t1' := (hb5.frozen (p := ⟨w.heap.size + 1, 1, none⟩) hzr1).trans t1; have t2' := (hb5.frozen (p := ⟨w.heap.size + 1, 2, none⟩) hzr1).trans t2))
      all_goals
        clear r0 r1 r2 t0 t1 t2
        go_wp2_with fail
        have hs5' : wr.heap.size ≤ w5.heap.size := hb5.size
        have ho5' : w5.ownsRow wr.heap.size 85 3 (.slice A5 (mirL W L).length c5) (mirL W L).length (flat T) := ho5
        rw [hll] at ho5'
        have hb5' : Below wr.heap.size wr w5 := ⟨hb5.os, hb5.tape, hb5.output, hb5.size, hb5.block⟩
        have hB := ((hB1'.trans (hb5'.mono (by omega))).setCell (p := ⟨w.heap.size + 1, 0, none⟩) (by simp) (.int .i64 W)).setCell (p := ⟨w.heap.size + 1, 1, none⟩) (by simp) (.int .i64 H) |>.setCell (p := ⟨w.heap.size + 1, 2, none⟩) (by simp) (.slice A5 L.length c5)
        have R := ownsRow_setCell_below (ownsRow_setCell_below (ownsRow_setCell_below ho5' (a := ⟨w.heap.size + 1, 0, none⟩) hzr1 (.int .i64 W)) (a := ⟨w.heap.size + 1, 1, none⟩) hzr1 (.int .i64 H)) (a := ⟨w.heap.size + 1, 2, none⟩) hzr1 (.slice A5 L.length c5)
        refine bodyPost_ret (v := .agg #[.int .i64 W, .int .i64 H, .slice A5 L.length c5]) (by simp [results, Try.results48, go_sem, r0', r1', r2']) rfl ?_
        exact ⟨A5, c5, T, by rw [hll], hp5, hs5, by rw [hll]; exact own_base R (by omega), hB⟩
end Go.Proofs.Ytdpbjmdgjhleeaa
namespace Go.Proofs.Ytdpbjmdgjhleeaa
open Go.RowKit

set_option maxRecDepth 100000 in
set_option maxHeartbeats 1000000 in
theorem specMirror_any (W H : Int) (A : Option Addr) (n c : Nat) (L : List Sq) (w : World) (hl : L.length = n) (hc : n ≤ c) (hL : SqsAt w w.heap.size A L) :
    Calls Try.prog 14 #[.agg #[.int .i64 W, .int .i64 H, .slice A n c]] w (RetCut w (cutX W H L W) (cutX W H L H) (ifGood W H L (srt (mirL W L))) (dc (Good W H L))) := by
  subst hl
  have Z0 : Box w.heap.size w (w.alloc (.cells #[.int .i64 W, .int .i64 H, .slice A L.length c] 28)) W H A c L := Box.start hL
  have Z1 := Z0.next ((Below.refl _ _).alloc (Nat.le_refl _) (.cells #[.int .i64 0, .int .i64 0, .slice none 0 0] 28))
  have q1 : Bx (w.heap.size + 1) ((w.alloc (.cells #[.int .i64 W, .int .i64 H, .slice A L.length c] 28)).alloc (.cells #[.int .i64 0, .int .i64 0, .slice none 0 0] 28)) 0 0 none 0 0 := by simpa using Bx.start (w.alloc (.cells #[.int .i64 W, .int .i64 H, .slice A L.length c] 28)) 0 0 none 0 0 28
  obtain ⟨W1, hW1⟩ : ∃ W1, W1 = ((w.alloc (.cells #[.int .i64 W, .int .i64 H, .slice A L.length c] 28)).alloc (.cells #[.int .i64 0, .int .i64 0, .slice none 0 0] 28)) := ⟨_, rfl⟩
  have hz : W1.heap.size = w.heap.size + 2 := by rw [hW1]; simp
  rw [← hW1] at Z1 q1
  have qf : ∀ o, W1.frozen? ⟨w.heap.size + 1, o, none⟩ = false := by intro o; rw [hW1]; exact World.frozen?_alloc_at _ _ _ _ (by simp)
  obtain ⟨hB1, hz1', b0, b1, b2, hL1⟩ := id Z1
  clear Z0
  by_cases hG : Good W H L
  · rw [cutX_yes hG, cutX_yes hG, ifGood_yes hG, dc_true hG]
    go_enter Try.func14, Try.ntmps14
    go_wp2_with fail
    rw [← hW1]
    refine (callB_yes (cuGood_any W H A _ c L _ rfl hc (hL1.mono hB1.size)) hG).mono ?_
    rintro e w2 ⟨rfl, hb2⟩
    have Z2 := Z1.next hb2
    have q2 := q1.next hb2
    have qf2 : ∀ o, w2.frozen? ⟨w.heap.size + 1, o, none⟩ = false := fun o => (hb2.frozen (p := ⟨w.heap.size + 1, o, none⟩) (by simp; omega)).trans (qf o)
    have hs2 := hb2.size
    clear hb2 Z1 q1 qf b0 b1 b2 hL1 hB1 hz1' hW1
    obtain ⟨hB2, hz2, b0, b1, b2, hL2⟩ := id Z2
    go_wp2_with fail
    refine (cuMirror_any W H A L.length c L _ rfl hc (hL2.mono (by omega)) hG).mono ?_
    rintro e w3 ⟨Ag, cg, T, rfl, hp, hs, hown, hb3⟩
    obtain rfl := srt_uniq hp hs ((fill_mir (good_fill hG)).dist)
    have qs := q2.next hb3
    have t0 := (hb3.frozen (p := ⟨w.heap.size + 1, 0, none⟩) (by simp; omega)).trans (qf2 0)
    have t1 := (hb3.frozen (p := ⟨w.heap.size + 1, 1, none⟩) (by simp; omega)).trans (qf2 1)
    have t2 := (hb3.frozen (p := ⟨w.heap.size + 1, 2, none⟩) (by simp; omega)).trans (qf2 2)
    obtain ⟨_, r0, r1, r2⟩ := id qs
    have hB3 := hB2.trans (hb3.mono (by omega))
    clear b0 b1 b2 hL2 Z2 q2 qf2
    go_wp2_with fail
    have hB := ((hB3.setCell (p := ⟨w.heap.size + 1, 0, none⟩) (by simp) (.int .i64 W)).setCell (p := ⟨w.heap.size + 1, 1, none⟩) (by simp) (.int .i64 H)).setCell (p := ⟨w.heap.size + 1, 2, none⟩) (by simp) (.slice Ag (mirL W L).length cg)
    have R := ownsRow_setCell_below (ownsRow_setCell_below (ownsRow_setCell_below hown (a := ⟨w.heap.size + 1, 0, none⟩) (by simp; omega) (.int .i64 W)) (a := ⟨w.heap.size + 1, 1, none⟩) (by simp; omega) (.int .i64 H)) (a := ⟨w.heap.size + 1, 2, none⟩) (by simp; omega) (.slice Ag (mirL W L).length cg)
    refine bodyPost_ret (v := .tuple #[.agg #[.int .i64 W, .int .i64 H, .slice Ag (mirL W L).length cg], .bool true]) (by simp [results, Try.results14, go_sem, r0, r1, r2]) rfl ?_
    exact RetCut.mk (srt_len _).symm (own_base R (by omega)) hB
  · rw [cutX_no hG, cutX_no hG, ifGood_no hG, dc_false hG]
    go_enter Try.func14, Try.ntmps14
    go_wp2_with fail
    rw [← hW1]
    refine (callB_no (cuGood_any W H A _ c L _ rfl hc (hL1.mono hB1.size)) hG).mono ?_
    rintro e w2 ⟨rfl, hb2⟩
    have q2 := q1.next hb2
    have qf2 : ∀ o, w2.frozen? ⟨w.heap.size + 1, o, none⟩ = false := fun o => (hb2.frozen (p := ⟨w.heap.size + 1, o, none⟩) (by simp; omega)).trans (qf o)
    obtain ⟨_, r0, r1, r2⟩ := id q2
    have t0 := qf2 0
    have t1 := qf2 1
    have t2 := qf2 2
    have hB2 := hB1.trans (hb2.mono hB1.size)
    have hs2 := hb2.size
    clear q1 q2 qf qf2 Z1 b0 b1 b2 hL1
    go_wp2_with fail
    have hB := ((((hB2.setCell (p := ⟨w.heap.size + 1, 0, none⟩) (by simp) (.int .i64 0)).setCell (p := ⟨w.heap.size + 1, 1, none⟩) (by simp) (.int .i64 0)).setCell (p := ⟨w.heap.size + 1, 2, none⟩) (by simp) (.slice none 0 0)))
    refine bodyPost_ret (v := .tuple #[.agg #[.int .i64 0, .int .i64 0, .slice none 0 0], .bool false]) (by simp [results, Try.results14, go_sem, r0, r1, r2]) rfl ?_
    exact RetCut.mk rfl (World.ownsRow_nil _ _ _ _) hB
end Go.Proofs.Ytdpbjmdgjhleeaa
