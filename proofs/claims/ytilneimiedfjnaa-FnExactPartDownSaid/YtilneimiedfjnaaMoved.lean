/- The program's moved squares, and the model's grown and moved ones. -/
import Derived.Test.YtilneimiedfjnaaJoinG
import Derived.Test.YtilneimiedfjnaaConc
import Derived.Test.YtilneimiedfjnaaGrowT
set_option linter.all false
namespace Go.Proofs.Ytilneimiedfjnaa
open Go.RowKit

theorem mv_flat (f : Sq → Sq) (L : List Sq) (k : Nat) (s : Sq) (h : L[k]? = some s) : flat ((L.take (k + 1)).map f) = flat ((L.take k).map f) ++ [.int .i64 (f s).x, .int .i64 (f s).y, .int .i64 (f s).d] := flat_map_succ f L k s h
/-- Places that no sum of two takes out of reach. -/
def SmallS (s : Sq) : Prop := (-1000000 ≤ s.x ∧ s.x ≤ 1000000) ∧ (-1000000 ≤ s.y ∧ s.y ≤ 1000000) ∧ (-1000000 ≤ s.d ∧ s.d ≤ 1000000)

set_option maxRecDepth 100000 in
set_option maxHeartbeats 1000000 in
theorem moved_any (A : Option Addr) (n c : Nat) (L : List Sq) (x y : Int) (w : World) (hl : L.length = n) (hn : n ≤ 1048576) (hL : SqsAt w w.heap.size A L) (hS : ∀ s ∈ L, SmallS s) (hx : -1000000 ≤ x ∧ x ≤ 1000000) (hy : -1000000 ≤ y ∧ y ≤ 1000000) :
    Calls Try.prog 59 #[.slice A n c, .int .i64 x, .int .i64 y] w (RetQ w (J.mvL x y L)) := by
  subst hl
  obtain ⟨i0, hi, hz0, hz1, hz2⟩ := info_parts infoSq
  go_enter Try.func59, Try.ntmps59
  go_wp2_with (at_make; refine wpList_make_full _ rfl _ _ 27 rfl w.heap.size 65 i0 (.agg #[.int .i64 0, .int .i64 0, .int .i64 0]) 3 Try.underlying27 hi hz0 hz1 .i64 .i64 L.length L.length L.length rfl rfl rfl rfl (by rw [hz2]; omega) (by unfold maxLen; omega) (Nat.le_refl _) ?_; intro w2 hown hgrow)
  have hb2 : Below w.heap.size w w2 := (Below.refl _ w).grown hgrow (Nat.le_refl _) (by simp)
  clear hgrow
  obtain ⟨g, hg⟩ : ∃ g, g = w.heap.size := ⟨_, rfl⟩
  rw [← hg] at hown hb2 hL ⊢
  have hBg := Lib.hid hg
  clear hg
  go_loopw [15] (fun i wr => ∃ k : Nat, k ≤ L.length ∧ i = .int .i64 k ∧ Below g w wr ∧ ∃ xs, wr.ownsRow g 65 3 (.slice (some ⟨g, 0, none⟩) L.length L.length) L.length xs ∧ xs.take (k * 3) = flat (J.mvL x y (L.take k))) (fun i _ => L.length - (intOf i).toNat)
  case atStart => exact ⟨0, Nat.zero_le _, rfl, hb2, _, hown, by simp [flat, J.mvL]⟩
  case round =>
    obtain ⟨k, hk, rfl, hbr, xs, hown1, htake⟩ := hrel
    by_cases hlt : k < L.length
    · obtain ⟨s, hs⟩ : ∃ s, L[k]? = some s := ⟨_, List.getElem?_eq_getElem hlt⟩
      have hLr := hL.below hbr
      obtain ⟨b, off, rfl, hb, c0, c1, c2⟩ := hLr k s hs
      obtain ⟨sx, sy, sd⟩ := hS s (List.mem_of_getElem? hs)
      have HS := Lib.hid hs
      have HT := Lib.hid htake
      clear hs hL hown htake hLr
      obtain ⟨v0, e0⟩ := own_some hown1 (j := k * 3) (by omega)
      obtain ⟨v1, e1⟩ := own_some hown1 (j := k * 3 + 1) (by omega)
      obtain ⟨v2, e2⟩ := own_some hown1 (j := k * 3 + 2) (by omega)
      have f0 := hown1.frozenAt (k * 3)
      have f1 := hown1.frozenAt (k * 3 + 1)
      have f2 := hown1.frozenAt (k * 3 + 2)
      have k0 : (0 : Int) ≤ (k : Int) := by omega
      have k1 : (k : Int) < (L.length : Int) := by omega
      have hgl := own_lt hown1
      go_wp2_with fail
      have hx := hown1.1
      have R := ((((hown1.stored (k * 3) (.int .i64 (s.x + x))).1).stored (k * 3 + 1) (.int .i64 (s.y + y))).1.stored (k * 3 + 2) (.int .i64 (s.d))).1.alloc (.cells #[.int .i64 s.x, .int .i64 s.y, .int .i64 s.d] 65)
      have hB := (((hbr.setCell (p := ⟨g, k * 3, none⟩) (Nat.le_refl _) (.int .i64 (s.x + x))).setCell (p := ⟨g, k * 3 + 1, none⟩) (Nat.le_refl _) (.int .i64 (s.y + y))).setCell (p := ⟨g, k * 3 + 2, none⟩) (Nat.le_refl _) (.int .i64 (s.d))).alloc (by simp; omega) (.cells #[.int .i64 s.x, .int .i64 s.y, .int .i64 s.d] 65)
      go_roundw
      case rel => exact ⟨k + 1, by omega, by go_num, hB, _, R, by rw [take_set3 _ _ _ _ _ (by omega), HT.out]; exact (mv_flat (J.mvS x y) L k s HS.out).symm⟩
      case measure => simp [intOf]; omega
    · obtain rfl : k = L.length := by omega
      have hx := hown1.1
      rw [List.take_of_length_le (by omega), List.take_of_length_le (Nat.le_refl _)] at htake
      subst htake
      go_wp2_with fail
      go_ret
      unfold RetQ
      rw [J.mvL_len]
      exact ⟨_, _, rfl, by rw [← hBg.out]; exact hown1, by rw [← hBg.out]; exact hbr⟩

set_option maxRecDepth 100000 in
set_option maxHeartbeats 2000000 in
theorem joGrown_any (W H : Int) (A : Option Addr) (n c : Nat) (L : List Sq) (k0 x y : Int) (w : World) (hl : L.length = n) (hn : n ≤ 1048576) (hL : SqsAt w w.heap.size A L) (hS : ∀ s ∈ L, (0 ≤ s.x ∧ s.x ≤ 500) ∧ (0 ≤ s.y ∧ s.y ≤ 500) ∧ (0 ≤ s.d ∧ s.d ≤ 500)) (hk1 : 1 ≤ k0) (hk2 : k0 ≤ 500) (hx : 0 ≤ x ∧ x ≤ 1000000) (hy : 0 ≤ y ∧ y ≤ 1000000) :
    Calls Try.prog 67 #[.agg #[.int .i64 W, .int .i64 H, .slice A n c], .int .i64 k0, .int .i64 x, .int .i64 y] w (RetQ w (J.jL k0 x y L)) := by
  subst hl
  obtain ⟨i0, hi, hz0, hz1, hz2⟩ := info_parts infoSq
  have Z1 : Box w.heap.size w (w.alloc (.cells #[.int .i64 W, .int .i64 H, .slice A L.length c] 29)) W H A c L := Box.start hL
  obtain ⟨W1, hW1⟩ : ∃ W1, W1 = (w.alloc (.cells #[.int .i64 W, .int .i64 H, .slice A L.length c] 29)) := ⟨_, rfl⟩
  have hz : W1.heap.size = w.heap.size + 1 := by rw [hW1]; simp
  rw [← hW1] at Z1
  obtain ⟨hB1, hz1', b0, b1, b2, hL1⟩ := id Z1
  go_enter Try.func67, Try.ntmps67
  go_wp2_with fail
  rw [← hW1]
  clear b0 b1 b2 hL1 hW1
  go_loopw [9, 15] (fun v i wr => ∃ k : Nat, k ≤ L.length ∧ i = .int .i64 k ∧ Below (w.heap.size + 1) W1 wr ∧ w.heap.size + 1 ≤ wr.heap.size ∧ wr.ownsRow (w.heap.size + 1) 65 3 v k (flat (J.jL k0 x y (L.take k)))) (fun _ i _ => L.length - (intOf i).toNat)
  case atStart => exact ⟨0, Nat.zero_le _, rfl, Below.refl _ _, Nat.le_of_eq hz.symm, World.ownsRow_nil _ _ _ _⟩
  case round =>
    obtain ⟨k, hk, rfl, hbr, hzr, hown1⟩ := hrel
    have Zr := Z1.keep hbr (by omega) (by omega)
    obtain ⟨_, hzw, b0, b1, b2, hLr⟩ := id Zr
    by_cases hlt : k < L.length
    · obtain ⟨s, hs⟩ : ∃ s, L[k]? = some s := ⟨_, List.getElem?_eq_getElem hlt⟩
      obtain ⟨b, off, rfl, hb, c0, c1, c2⟩ := hLr k s hs
      obtain ⟨sx, sy, sd⟩ := hS s (List.mem_of_getElem? hs)
      have HS := Lib.hid hs
      obtain ⟨m0, m0'⟩ := prod_bd hk1 hk2 sx.1 sx.2
      obtain ⟨m1, m1'⟩ := prod_bd hk1 hk2 sy.1 sy.2
      obtain ⟨m2, m2'⟩ := prod_bd hk1 hk2 sd.1 sd.2
      rw [Int.mul_comm] at m0 m0' m1 m1' m2 m2'
      clear hs hL Z1 hS hLr Zr
      have kz : (0 : Int) ≤ (k : Int) := by omega
      have k1 : (k : Int) < (L.length : Int) := by omega
      have hbl : k + 1 ≤ maxLen := by unfold maxLen; omega
      have hby : (k + 1) * 24 ≤ 140737488355328 := by omega
      obtain ⟨A3, c3, rfl⟩ := own_val hown1
      go_wp2_with (at_builtin; refine app_list rfl _ _ _ rfl (w.heap.size + 1) 65 i0 (.agg #[.int .i64 0, .int .i64 0, .int .i64 0]) 3 24 Try.underlying27 hi hz0 hz1 hz2 rfl (by decide) (.slice A3 k c3) k _ rfl ((hown1.alloc _).alloc _) (some ⟨wr.heap.size + 1, 0, none⟩) 1 1 [.int .i64 (s.x * k0 + x), .int .i64 (s.y * k0 + y), .int .i64 (s.d * k0)] rfl rfl (.inr ⟨_, rfl, new3' _ _ _ _ _ _⟩) (one3 _ _ _) hbl hby (by simp; omega) ?_; intro v' w4 hown4 hgr4 _; have hb4 : Below (w.heap.size + 1) W1 w4 := ((hbr.alloc hzr _).alloc (by simp; omega) _).grown hgr4 (by simp; omega) (fun kk hkk => (hown1.lt kk hkk).1))
      go_roundw
      case rel =>
        refine ⟨k + 1, by omega, by go_num, hb4, by have := hgr4.size; simp at this; omega, ?_⟩
        have e := mv_flat (J.jS k0 x y) L k s HS.out
        unfold J.jL at hown4 ⊢
        rw [e]
        exact hown4
      case measure => simp [intOf]; omega
    · obtain rfl : k = L.length := by omega
      rw [List.take_of_length_le (Nat.le_refl _)] at hown1
      obtain ⟨A3, c3, rfl⟩ := own_val hown1
      have hB := hB1.trans (hbr.mono (by omega))
      clear hL Zr Z1 hLr b0 b1 b2
      go_wp2_with fail
      go_ret
      unfold RetQ
      rw [J.jL_len]
      exact ⟨A3, c3, rfl, own_base hown1 (by omega), hB⟩
end Go.Proofs.Ytilneimiedfjnaa
