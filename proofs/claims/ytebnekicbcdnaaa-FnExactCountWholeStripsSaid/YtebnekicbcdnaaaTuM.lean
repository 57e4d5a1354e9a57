/- TurnI, TurnJ: texts in one. -/
import Derived.Test.YtebnekicbcdnaaaSortF
import Derived.Test.YtebnekicbcdnaaaGen
set_option linter.all false
namespace Go.Proofs.Ytebnekicbcdnaaa
open Go.RowKit

theorem flat_map_succ (f : Sq → Sq) (L : List Sq) (k : Nat) (s : Sq) (h : L[k]? = some s) : flat ((L.take (k + 1)).map f) = flat ((L.take k).map f) ++ [.int .i64 (f s).x, .int .i64 (f s).y, .int .i64 (f s).d] := by
  rw [List.take_add_one, h]; simp [flat_app]; rfl
/-- A cut of these lengths whose squares, in their order, lie in memory of the call's own. -/
def RetOrd (w : World) (base : Nat) (X Y : Int) (L : List Sq) (e : Ending) (w' : World) : Prop :=
  ∃ (A : Option Addr) (c : Nat) (T : List Sq), e = .returned (.agg #[.int .i64 X, .int .i64 Y, .slice A L.length c]) ∧ T.Perm L ∧ T.Pairwise (fun a b => leB a b = true) ∧ w'.ownsRow base 96 3 (.slice A L.length c) L.length (flat T) ∧ Below w.heap.size w w'

set_option maxRecDepth 100000 in
set_option maxHeartbeats 1000000 in
theorem turned_any (W H : Int) (A : Option Addr) (n c : Nat) (L : List Sq) (w : World) (hl : L.length = n) (hc : n ≤ c) (hL : SqsAt w w.heap.size A L) (hG : Good W H L) :
    Calls Try.prog 100 #[.agg #[.int .i64 W, .int .i64 H, .slice A n c]] w (RetOrd w w.heap.size H W (turnL H L)) := by
  subst hl
  obtain ⟨i0, hi, hz0, hz1, hz2⟩ := info_parts infoSq
  have Z0 : Box w.heap.size w (w.alloc (.cells #[.int .i64 W, .int .i64 H, .slice A L.length c] 46)) W H A c L := Box.start hL
  have hg30 := hG.2.2.1.2
  have hW := hG.1
  have hH := hG.2.1
  have Z1 := Z0.next ((Below.refl _ _).alloc (Nat.le_refl _) (.cells #[.int .i64 0, .int .i64 0, .slice none 0 0] 46))
  have q1 : Bx (w.heap.size + 1) ((w.alloc (.cells #[.int .i64 W, .int .i64 H, .slice A L.length c] 46)).alloc (.cells #[.int .i64 0, .int .i64 0, .slice none 0 0] 46)) 0 0 none 0 0 := by simpa using Bx.start (w.alloc (.cells #[.int .i64 W, .int .i64 H, .slice A L.length c] 46)) 0 0 none 0 0 46
  obtain ⟨W1, hW1⟩ : ∃ W1, W1 = ((w.alloc (.cells #[.int .i64 W, .int .i64 H, .slice A L.length c] 46)).alloc (.cells #[.int .i64 0, .int .i64 0, .slice none 0 0] 46)) := ⟨_, rfl⟩
  have hz : W1.heap.size = w.heap.size + 2 := by rw [hW1]; simp
  rw [← hW1] at Z1 q1
  have qf : ∀ o, W1.frozen? ⟨w.heap.size + 1, o, none⟩ = false := by intro o; rw [hW1]; exact World.frozen?_alloc_at _ _ _ _ (by simp)
  obtain ⟨hB1, hz1', b0, b1, b2, hL1⟩ := id Z1
  go_enter Try.func100, Try.ntmps100
  go_wp2_with (at_make; rw [← hW1]; refine wpList_make_full _ rfl _ _ 44 rfl (w.heap.size + 2) 96 i0 (.agg #[.int .i64 0, .int .i64 0, .int .i64 0]) 3 Try.underlying44 hi hz0 hz1 .i64 .i64 L.length L.length L.length rfl rfl rfl rfl (by rw [hz2]; omega) (by unfold maxLen; omega) (Nat.le_of_eq hz.symm) ?_; rw [hz]; intro w2 hown hgrow; have hb2 : Below W1.heap.size W1 w2 := (Below.refl _ _).grown hgrow (Nat.le_refl _) (by simp); have d2 := (hb2.cell (p := ⟨w.heap.size, 2, none⟩) hz1').trans b2)
  have hb2 : Below (w.heap.size + 2) W1 w2 := hb2.mono (Nat.le_of_eq hz.symm)
  have hs2 : w.heap.size + 2 < w2.heap.size := (own_lt hown).2
  clear d2 hgrow b0 b1 b2 hL1 Z0 hW1
  have Z2 : Box w.heap.size w w2 W H A c L := Z1.keep hb2 (by omega) (by omega)
  go_loopw [13] (fun i wr => ∃ k : Nat, k ≤ L.length ∧ i = .int .i64 k ∧ Below (w.heap.size + 2) W1 wr ∧ w.heap.size + 2 < wr.heap.size ∧ ∃ xs, wr.ownsRow (w.heap.size + 2) 96 3 (.slice (some ⟨w.heap.size + 2, 0, none⟩) L.length L.length) L.length xs ∧ xs.take (k * 3) = flat (turnL H (L.take k))) (fun i _ => L.length - (intOf i).toNat)
  case atStart => exact ⟨0, Nat.zero_le _, rfl, hb2, hs2, _, hown, by simp [flat, turnL]⟩
  case round =>
    obtain ⟨k, hk, rfl, hbr, hzr, xs, hown1, htake⟩ := hrel
    have Zr := Z1.keep hbr (by omega) (by omega)
    obtain ⟨_, _, b0, b1, b2, hLr⟩ := id Zr
    by_cases hlt : k < L.length
    · obtain ⟨s, hs⟩ : ∃ s, L[k]? = some s := ⟨_, List.getElem?_eq_getElem hlt⟩
      obtain ⟨b, off, rfl, hb, c0, c1, c2⟩ := hLr k s hs
      have hin : Within s W H := (hG.2.2.2.1 k s hs).1
      unfold Within at hin
      have HS := Lib.hid hs
      have HT := Lib.hid htake
      clear hs hL Z1 Z2 hown htake q1 hG hLr Zr
      obtain ⟨v0, e0⟩ := own_some hown1 (j := k * 3) (by omega)
      obtain ⟨v1, e1⟩ := own_some hown1 (j := k * 3 + 1) (by omega)
      obtain ⟨v2, e2⟩ := own_some hown1 (j := k * 3 + 2) (by omega)
      have f0 := hown1.frozenAt (k * 3)
      have f1 := hown1.frozenAt (k * 3 + 1)
      have f2 := hown1.frozenAt (k * 3 + 2)
      have k0 : (0 : Int) ≤ (k : Int) := by omega
      have k1 : (k : Int) < (L.length : Int) := by omega
      go_wp2_with fail
      have hx := hown1.1
      have R := ((((hown1.stored (k * 3) (.int .i64 (H - s.y - s.d))).1).stored (k * 3 + 1) (.int .i64 (s.x))).1.stored (k * 3 + 2) (.int .i64 (s.d))).1.alloc (.cells #[.int .i64 s.x, .int .i64 s.y, .int .i64 s.d] 96)
      have hB := (((hbr.setCell (p := ⟨w.heap.size + 2, k * 3, none⟩) (Nat.le_refl _) (.int .i64 (H - s.y - s.d))).setCell (p := ⟨w.heap.size + 2, k * 3 + 1, none⟩) (Nat.le_refl _) (.int .i64 (s.x))).setCell (p := ⟨w.heap.size + 2, k * 3 + 2, none⟩) (Nat.le_refl _) (.int .i64 (s.d))).alloc (by simp; omega) (.cells #[.int .i64 s.x, .int .i64 s.y, .int .i64 s.d] 96)
      go_roundw
      case rel => exact ⟨k + 1, by omega, by go_num, hB, by simp; omega, _, R, by rw [take_set3 _ _ _ _ _ (by omega), HT.out]; exact (flat_map_succ (turnS H) L k s HS.out).symm⟩
      case measure => simp [intOf]; omega
    · obtain rfl : k = L.length := by omega
      have hx := hown1.1
      rw [List.take_of_length_le (by omega), List.take_of_length_le (Nat.le_refl _)] at htake
      subst htake
      have r0 := (hbr.cell (p := ⟨w.heap.size + 1, 0, none⟩) (by simp)).trans q1.c0
      have r1 := (hbr.cell (p := ⟨w.heap.size + 1, 1, none⟩) (by simp)).trans q1.c1
      have r2 := (hbr.cell (p := ⟨w.heap.size + 1, 2, none⟩) (by simp)).trans q1.c2
      have t0 := (hbr.frozen (p := ⟨w.heap.size + 1, 0, none⟩) (by simp)).trans (qf 0)
      have t1 := (hbr.frozen (p := ⟨w.heap.size + 1, 1, none⟩) (by simp)).trans (qf 1)
      have t2 := (hbr.frozen (p := ⟨w.heap.size + 1, 2, none⟩) (by simp)).trans (qf 2)
      clear hL Zr Z1 Z2 hG hown q1 hLr
      go_wp2_with fail
      refine (inOrder_any H W _ L.length L.length (w.heap.size + 2) (turnL H L) wr (by simp [turnL]) (by omega) hown1).mono ?_
      rintro e w5 ⟨T, rfl, hT, hP, ho5, hg5⟩
      have hb5 : Below (w.heap.size + 2) wr w5 := below_of_grown hg5 (by omega) (fun k hk => by simp [Value.ownBlock] at hk; omega)
      have hs5 := hb5.size
      have r0' := (hb5.cell (p := ⟨w.heap.size + 1, 0, none⟩) (by simp)).trans r0
      have r1' := (hb5.cell (p := ⟨w.heap.size + 1, 1, none⟩) (by simp)).trans r1
      have r2' := (hb5.cell (p := ⟨w.heap.size + 1, 2, none⟩) (by simp)).trans r2
      have t0' := (hb5.frozen (p := ⟨w.heap.size + 1, 0, none⟩) (by simp)).trans t0
      have t1' := (hb5.frozen (p := ⟨w.heap.size + 1, 1, none⟩) (by simp)).trans t1
      have t2' := (hb5.frozen (p := ⟨w.heap.size + 1, 2, none⟩) (by simp)).trans t2
      have hB5 := hB1.trans ((hbr.trans hb5).mono (by omega))
      clear r0 r1 r2 t0 t1 t2 b0 b1 b2 hg5 hb5
      go_wp2_with fail
      have hB := ((hB5.setCell (p := ⟨w.heap.size + 1, 0, none⟩) (by simp) (.int .i64 H)).setCell (p := ⟨w.heap.size + 1, 1, none⟩) (by simp) (.int .i64 W)).setCell (p := ⟨w.heap.size + 1, 2, none⟩) (by simp) (.slice (some ⟨w.heap.size + 2, 0, none⟩) L.length L.length)
      have R := ownsRow_setCell_below (ownsRow_setCell_below (ownsRow_setCell_below ho5 (a := ⟨w.heap.size + 1, 0, none⟩) (by simp) (.int .i64 H)) (a := ⟨w.heap.size + 1, 1, none⟩) (by simp) (.int .i64 W)) (a := ⟨w.heap.size + 1, 2, none⟩) (by simp) (.slice (some ⟨w.heap.size + 2, 0, none⟩) L.length L.length)
      refine bodyPost_ret (v := .agg #[.int .i64 H, .int .i64 W, .slice (some ⟨w.heap.size + 2, 0, none⟩) L.length L.length]) (by simp [results, Try.results100, go_sem, r0', r1', r2']) rfl ?_
      have hll : (turnL H L).length = L.length := by simp [turnL]
      exact ⟨some ⟨w.heap.size + 2, 0, none⟩, L.length, T, by rw [hll], hT, hP, by rw [hll]; exact own_base R (by omega), hB⟩

set_option maxRecDepth 100000 in
set_option maxHeartbeats 1000000 in
theorem mirrored_any (W H : Int) (A : Option Addr) (n c : Nat) (L : List Sq) (w : World) (hl : L.length = n) (hc : n ≤ c) (hL : SqsAt w w.heap.size A L) (hG : Good W H L) :
    Calls Try.prog 99 #[.agg #[.int .i64 W, .int .i64 H, .slice A n c]] w (RetOrd w w.heap.size W H (mirL W L)) := by
  subst hl
  obtain ⟨i0, hi, hz0, hz1, hz2⟩ := info_parts infoSq
  have Z0 : Box w.heap.size w (w.alloc (.cells #[.int .i64 W, .int .i64 H, .slice A L.length c] 46)) W H A c L := Box.start hL
  have hg30 := hG.2.2.1.2
  have hW := hG.1
  have hH := hG.2.1
  have Z1 := Z0.next ((Below.refl _ _).alloc (Nat.le_refl _) (.cells #[.int .i64 0, .int .i64 0, .slice none 0 0] 46))
  have q1 : Bx (w.heap.size + 1) ((w.alloc (.cells #[.int .i64 W, .int .i64 H, .slice A L.length c] 46)).alloc (.cells #[.int .i64 0, .int .i64 0, .slice none 0 0] 46)) 0 0 none 0 0 := by simpa using Bx.start (w.alloc (.cells #[.int .i64 W, .int .i64 H, .slice A L.length c] 46)) 0 0 none 0 0 46
  obtain ⟨W1, hW1⟩ : ∃ W1, W1 = ((w.alloc (.cells #[.int .i64 W, .int .i64 H, .slice A L.length c] 46)).alloc (.cells #[.int .i64 0, .int .i64 0, .slice none 0 0] 46)) := ⟨_, rfl⟩
  have hz : W1.heap.size = w.heap.size + 2 := by rw [hW1]; simp
  rw [← hW1] at Z1 q1
  have qf : ∀ o, W1.frozen? ⟨w.heap.size + 1, o, none⟩ = false := by intro o; rw [hW1]; exact World.frozen?_alloc_at _ _ _ _ (by simp)
  obtain ⟨hB1, hz1', b0, b1, b2, hL1⟩ := id Z1
  go_enter Try.func99, Try.ntmps99
  go_wp2_with (at_make; rw [← hW1]; refine wpList_make_full _ rfl _ _ 44 rfl (w.heap.size + 2) 96 i0 (.agg #[.int .i64 0, .int .i64 0, .int .i64 0]) 3 Try.underlying44 hi hz0 hz1 .i64 .i64 L.length L.length L.length rfl rfl rfl rfl (by rw [hz2]; omega) (by unfold maxLen; omega) (Nat.le_of_eq hz.symm) ?_; rw [hz]; intro w2 hown hgrow; have hb2 : Below W1.heap.size W1 w2 := (Below.refl _ _).grown hgrow (Nat.le_refl _) (by simp); have d2 := (hb2.cell (p := ⟨w.heap.size, 2, none⟩) hz1').trans b2)
  have hb2 : Below (w.heap.size + 2) W1 w2 := hb2.mono (Nat.le_of_eq hz.symm)
  have hs2 : w.heap.size + 2 < w2.heap.size := (own_lt hown).2
  clear d2 hgrow b0 b1 b2 hL1 Z0 hW1
  have Z2 : Box w.heap.size w w2 W H A c L := Z1.keep hb2 (by omega) (by omega)
  go_loopw [13] (fun i wr => ∃ k : Nat, k ≤ L.length ∧ i = .int .i64 k ∧ Below (w.heap.size + 2) W1 wr ∧ w.heap.size + 2 < wr.heap.size ∧ ∃ xs, wr.ownsRow (w.heap.size + 2) 96 3 (.slice (some ⟨w.heap.size + 2, 0, none⟩) L.length L.length) L.length xs ∧ xs.take (k * 3) = flat (mirL W (L.take k))) (fun i _ => L.length - (intOf i).toNat)
  case atStart => exact ⟨0, Nat.zero_le _, rfl, hb2, hs2, _, hown, by simp [flat, mirL]⟩
  case round =>
    obtain ⟨k, hk, rfl, hbr, hzr, xs, hown1, htake⟩ := hrel
    have Zr := Z1.keep hbr (by omega) (by omega)
    obtain ⟨_, _, b0, b1, b2, hLr⟩ := id Zr
    by_cases hlt : k < L.length
    · obtain ⟨s, hs⟩ : ∃ s, L[k]? = some s := ⟨_, List.getElem?_eq_getElem hlt⟩
      obtain ⟨b, off, rfl, hb, c0, c1, c2⟩ := hLr k s hs
      have hin : Within s W H := (hG.2.2.2.1 k s hs).1
      unfold Within at hin
      have HS := Lib.hid hs
      have HT := Lib.hid htake
      clear hs hL Z1 Z2 hown htake q1 hG hLr Zr
      obtain ⟨v0, e0⟩ := own_some hown1 (j := k * 3) (by omega)
      obtain ⟨v1, e1⟩ := own_some hown1 (j := k * 3 + 1) (by omega)
      obtain ⟨v2, e2⟩ := own_some hown1 (j := k * 3 + 2) (by omega)
      have f0 := hown1.frozenAt (k * 3)
      have f1 := hown1.frozenAt (k * 3 + 1)
      have f2 := hown1.frozenAt (k * 3 + 2)
      have k0 : (0 : Int) ≤ (k : Int) := by omega
      have k1 : (k : Int) < (L.length : Int) := by omega
      go_wp2_with fail
      have hx := hown1.1
      have R := ((((hown1.stored (k * 3) (.int .i64 (W - s.x - s.d))).1).stored (k * 3 + 1) (.int .i64 (s.y))).1.stored (k * 3 + 2) (.int .i64 (s.d))).1.alloc (.cells #[.int .i64 s.x, .int .i64 s.y, .int .i64 s.d] 96)
      have hB := (((hbr.setCell (p := ⟨w.heap.size + 2, k * 3, none⟩) (Nat.le_refl _) (.int .i64 (W - s.x - s.d))).setCell (p := ⟨w.heap.size + 2, k * 3 + 1, none⟩) (Nat.le_refl _) (.int .i64 (s.y))).setCell (p := ⟨w.heap.size + 2, k * 3 + 2, none⟩) (Nat.le_refl _) (.int .i64 (s.d))).alloc (by simp; omega) (.cells #[.int .i64 s.x, .int .i64 s.y, .int .i64 s.d] 96)
      go_roundw
      case rel => exact ⟨k + 1, by omega, by go_num, hB, by simp; omega, _, R, by rw [take_set3 _ _ _ _ _ (by omega), HT.out]; exact (flat_map_succ (mirS W) L k s HS.out).symm⟩
      case measure => simp [intOf]; omega
    · obtain rfl : k = L.length := by omega
      have hx := hown1.1
      rw [List.take_of_length_le (by omega), List.take_of_length_le (Nat.le_refl _)] at htake
      subst htake
      have r0 := (hbr.cell (p := ⟨w.heap.size + 1, 0, none⟩) (by simp)).trans q1.c0
      have r1 := (hbr.cell (p := ⟨w.heap.size + 1, 1, none⟩) (by simp)).trans q1.c1
      have r2 := (hbr.cell (p := ⟨w.heap.size + 1, 2, none⟩) (by simp)).trans q1.c2
      have t0 := (hbr.frozen (p := ⟨w.heap.size + 1, 0, none⟩) (by simp)).trans (qf 0)
      have t1 := (hbr.frozen (p := ⟨w.heap.size + 1, 1, none⟩) (by simp)).trans (qf 1)
      have t2 := (hbr.frozen (p := ⟨w.heap.size + 1, 2, none⟩) (by simp)).trans (qf 2)
      clear hL Zr Z1 Z2 hG hown q1 hLr
      go_wp2_with fail
      refine (inOrder_any W H _ L.length L.length (w.heap.size + 2) (mirL W L) wr (by simp [mirL]) (by omega) hown1).mono ?_
      rintro e w5 ⟨T, rfl, hT, hP, ho5, hg5⟩
      have hb5 : Below (w.heap.size + 2) wr w5 := below_of_grown hg5 (by omega) (fun k hk => by simp [Value.ownBlock] at hk; omega)
      have hs5 := hb5.size
      have r0' := (hb5.cell (p := ⟨w.heap.size + 1, 0, none⟩) (by simp)).trans r0
      have r1' := (hb5.cell (p := ⟨w.heap.size + 1, 1, none⟩) (by simp)).trans r1
      have r2' := (hb5.cell (p := ⟨w.heap.size + 1, 2, none⟩) (by simp)).trans r2
      have t0' := (hb5.frozen (p := ⟨w.heap.size + 1, 0, none⟩) (by simp)).trans t0
      have t1' := (hb5.frozen (p := ⟨w.heap.size + 1, 1, none⟩) (by simp)).trans t1
      have t2' := (hb5.frozen (p := ⟨w.heap.size + 1, 2, none⟩) (by simp)).trans t2
      have hB5 := hB1.trans ((hbr.trans hb5).mono (by omega))
      clear r0 r1 r2 t0 t1 t2 b0 b1 b2 hg5 hb5
      go_wp2_with fail
      have hB := ((hB5.setCell (p := ⟨w.heap.size + 1, 0, none⟩) (by simp) (.int .i64 W)).setCell (p := ⟨w.heap.size + 1, 1, none⟩) (by simp) (.int .i64 H)).setCell (p := ⟨w.heap.size + 1, 2, none⟩) (by simp) (.slice (some ⟨w.heap.size + 2, 0, none⟩) L.length L.length)
      have R := ownsRow_setCell_below (ownsRow_setCell_below (ownsRow_setCell_below ho5 (a := ⟨w.heap.size + 1, 0, none⟩) (by simp) (.int .i64 W)) (a := ⟨w.heap.size + 1, 1, none⟩) (by simp) (.int .i64 H)) (a := ⟨w.heap.size + 1, 2, none⟩) (by simp) (.slice (some ⟨w.heap.size + 2, 0, none⟩) L.length L.length)
      refine bodyPost_ret (v := .agg #[.int .i64 W, .int .i64 H, .slice (some ⟨w.heap.size + 2, 0, none⟩) L.length L.length]) (by simp [results, Try.results99, go_sem, r0', r1', r2']) rfl ?_
      have hll : (mirL W L).length = L.length := by simp [mirL]
      exact ⟨some ⟨w.heap.size + 2, 0, none⟩, L.length, T, by rw [hll], hT, hP, by rw [hll]; exact own_base R (by omega), hB⟩
end Go.Proofs.Ytebnekicbcdnaaa
namespace Go.Proofs.Ytebnekicbcdnaaa
open Go.RowKit

/-- A length of the result: 0 where there is no cut. -/
noncomputable def cutX (W H : Int) (L : List Sq) (X : Int) : Int := if dc (Good W H L) then X else 0
theorem cutX_yes {W H X : Int} {L : List Sq} (h : Good W H L) : cutX W H L X = X := by simp [cutX, dc_true h]
theorem cutX_no {W H X : Int} {L : List Sq} (h : ¬ Good W H L) : cutX W H L X = 0 := by simp [cutX, dc_false h]

end Go.Proofs.Ytebnekicbcdnaaa
