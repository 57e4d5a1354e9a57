/- partCut of the program. -/
import Derived.Test.YtilneimiedfjnaaHalf
set_option linter.all false
namespace Go.Proofs.Ytilneimiedfjnaa
open Go.RowKit

set_option maxRecDepth 100000 in
theorem wholeArea_any (W H : Int) (A : Option Addr) (n c : Nat) (w : World) :
    Calls Try.prog 110 #[.agg #[.int .i64 W, .int .i64 H, .slice A n c]] w (fun e w' => e = .returned (.agg #[.int .i64 0, .int .i64 0, .int .i64 W, .int .i64 H]) ∧ Below w.heap.size w w') := by
  go_enter Try.func110, Try.ntmps110
  go_wp2_with fail
  refine bodyPost_ret (v := .agg #[.int .i64 0, .int .i64 0, .int .i64 W, .int .i64 H]) (by simp [results, Try.results110, go_sem]) rfl ?_
  exact ⟨rfl, ((Below.refl _ _).alloc (Nat.le_refl _) _).alloc (by simp) _⟩
theorem far3 {w : World} {a : Addr} {v x y z : Value} (b : Nat) (h : a.block ≠ b) (e : w.cell? a = some v) : (((w.setCell ⟨b, 0, none⟩ x).setCell ⟨b, 1, none⟩ y).setCell ⟨b, 2, none⟩ z).cell? a = some v := by
  rw [World.cell?_setCell_far _ _ _ _ (fun k => h k.symm), World.cell?_setCell_far _ _ _ _ (fun k => h k.symm), World.cell?_setCell_far _ _ _ _ (fun k => h k.symm)]; exact e
theorem six {w : World} {N e size n : Nat} {v p2 p3 s5 p6 p7 s6 : Value} {xs : List Value} (h : w.ownsRow (N + 3) e size v n xs) : ((((((w.setCell ⟨N + 1, 0, none⟩ p2).setCell ⟨N + 1, 1, none⟩ p3).setCell ⟨N + 1, 2, none⟩ s5).setCell ⟨N + 2, 0, none⟩ p6).setCell ⟨N + 2, 1, none⟩ p7).setCell ⟨N + 2, 2, none⟩ s6).ownsRow N e size v n xs :=
  own_base (ownsRow_setCell_below (ownsRow_setCell_below (ownsRow_setCell_below (ownsRow_setCell_below (ownsRow_setCell_below (ownsRow_setCell_below h (by simp) _) (by simp) _) (by simp) _) (by simp) _) (by simp) _) (by simp) _) (Nat.le_add_right _ 3)
/-- Two cuts, each in memory of its own, and that it did not fail. -/
def RetTT (w : World) (X1 Y1 : Int) (L1 : List Sq) (X2 Y2 : Int) (L2 : List Sq) (e : Ending) (w' : World) : Prop :=
  ∃ A1 c1 A2 c2, e = .returned (.tuple #[.agg #[.int .i64 X1, .int .i64 Y1, .slice A1 L1.length c1], .agg #[.int .i64 X2, .int .i64 Y2, .slice A2 L2.length c2], .bool true]) ∧ w'.ownsRow w.heap.size 65 3 (.slice A1 L1.length c1) L1.length (flat L1) ∧ w'.ownsRow w.heap.size 65 3 (.slice A2 L2.length c2) L2.length (flat L2) ∧ (∀ g, Value.ownBlock (.slice A1 L1.length c1) = some g → Value.ownBlock (.slice A2 L2.length c2) = some g → False) ∧ Below w.heap.size w w'
/-- What partCut keeps: its cut, and its two results. -/
structure PB (w : World) (W H : Int) (A : Option Addr) (n c : Nat) (wr : World) : Prop where
  below : Below w.heap.size w wr
  size : w.heap.size + 3 ≤ wr.heap.size
  a0 : wr.cell? ⟨w.heap.size, 0, none⟩ = some (.int .i64 W)
  a1 : wr.cell? ⟨w.heap.size, 1, none⟩ = some (.int .i64 H)
  a2 : wr.cell? ⟨w.heap.size, 2, none⟩ = some (.slice A n c)
  r : ∀ k, k = 1 ∨ k = 2 → wr.cell? ⟨w.heap.size + k, 0, none⟩ = some (.int .i64 0) ∧ wr.cell? ⟨w.heap.size + k, 1, none⟩ = some (.int .i64 0) ∧ wr.cell? ⟨w.heap.size + k, 2, none⟩ = some (.slice none 0 0)
  f : ∀ k o, k = 1 ∨ k = 2 → wr.frozen? ⟨w.heap.size + k, o, none⟩ = false
theorem PB.next {w : World} {W H : Int} {A : Option Addr} {n c : Nat} {wr w' : World} (h : PB w W H A n c wr) (hb : Below wr.heap.size wr w') : PB w W H A n c w' := by
  have hz := h.size
  exact ⟨h.below.trans (hb.mono h.below.size), Nat.le_trans hz hb.size, (hb.cell (p := ⟨_, _, none⟩) (by show w.heap.size < _; omega)).trans h.a0, (hb.cell (p := ⟨_, _, none⟩) (by show w.heap.size < _; omega)).trans h.a1, (hb.cell (p := ⟨_, _, none⟩) (by show w.heap.size < _; omega)).trans h.a2,
    fun k hk => ⟨(hb.cell (p := ⟨_, _, none⟩) (by show w.heap.size + k < _; omega)).trans (h.r k hk).1, (hb.cell (p := ⟨_, _, none⟩) (by show w.heap.size + k < _; omega)).trans (h.r k hk).2.1, (hb.cell (p := ⟨_, _, none⟩) (by show w.heap.size + k < _; omega)).trans (h.r k hk).2.2⟩,
    fun k o hk => (hb.frozen (p := ⟨_, _, none⟩) (by show w.heap.size + k < _; omega)).trans (h.f k o hk)⟩
theorem PB.start (w : World) (W H : Int) (A : Option Addr) (n c : Nat) : PB w W H A n c (((w.alloc (.cells #[.int .i64 W, .int .i64 H, .slice A n c] 29)).alloc (.cells #[.int .i64 0, .int .i64 0, .slice none 0 0] 29)).alloc (.cells #[.int .i64 0, .int .i64 0, .slice none 0 0] 29)) := by
  obtain ⟨wa, ha⟩ : ∃ x, x = w.alloc (.cells #[.int .i64 W, .int .i64 H, .slice A n c] 29) := ⟨_, rfl⟩
  obtain ⟨wb, hwb⟩ : ∃ x, x = wa.alloc (.cells #[.int .i64 0, .int .i64 0, .slice none 0 0] 29) := ⟨_, rfl⟩
  obtain ⟨wc, hwc⟩ : ∃ x, x = wb.alloc (.cells #[.int .i64 0, .int .i64 0, .slice none 0 0] 29) := ⟨_, rfl⟩
  rw [← ha, ← hwb, ← hwc]
  have za : wa.heap.size = w.heap.size + 1 := by rw [ha]; simp
  have zb : wb.heap.size = w.heap.size + 2 := by rw [hwb]; simp [za]
  have zc : wc.heap.size = w.heap.size + 3 := by rw [hwc]; simp [zb]
  have Ba : Below w.heap.size w wa := by rw [ha]; exact (Below.refl _ _).alloc (Nat.le_refl _) _
  have Bb : Below wa.heap.size wa wb := by rw [hwb]; exact (Below.refl _ _).alloc (Nat.le_refl _) _
  have Bc : Below wb.heap.size wb wc := by rw [hwc]; exact (Below.refl _ _).alloc (Nat.le_refl _) _
  have Bac : Below wa.heap.size wa wc := Bb.trans (Bc.mono (by omega))
  refine ⟨Ba.trans (Bac.mono (by omega)), by omega, (Bac.cell (p := ⟨_, _, none⟩) (by show w.heap.size < _; omega)).trans (by rw [ha]; simp), (Bac.cell (p := ⟨_, _, none⟩) (by show w.heap.size < _; omega)).trans (by rw [ha]; simp), (Bac.cell (p := ⟨_, _, none⟩) (by show w.heap.size < _; omega)).trans (by rw [ha]; simp), ?_, ?_⟩
  · rintro k (rfl | rfl)
    · rw [← za]
      exact ⟨(Bc.cell (p := ⟨_, _, none⟩) (by show wa.heap.size < _; omega)).trans (by rw [hwb]; simp), (Bc.cell (p := ⟨_, _, none⟩) (by show wa.heap.size < _; omega)).trans (by rw [hwb]; simp), (Bc.cell (p := ⟨_, _, none⟩) (by show wa.heap.size < _; omega)).trans (by rw [hwb]; simp)⟩
    · rw [← zb]
      exact ⟨by rw [hwc]; simp, by rw [hwc]; simp, by rw [hwc]; simp⟩
  · rintro k o (rfl | rfl)
    · rw [← za]
      exact (Bc.frozen (p := ⟨_, _, none⟩) (by show wa.heap.size < _; omega)).trans (by rw [hwb]; exact World.frozen?_alloc_at _ _ _ _ (by simp))
    · rw [← zb, hwc]; exact World.frozen?_alloc_at _ _ _ _ (by simp)
set_option maxRecDepth 100000 in
set_option maxHeartbeats 4000000 in
theorem partNoDown (W H : Int) (A : Option Addr) (n c : Nat) (L : List Sq)  (w : World) (hl : L.length = n) (hc : n ≤ c) (hL : SqsAt w w.heap.size A L) (hwf : ∀ s ∈ L, wfS s) (hG : Good W H L)
  (hF : ∀ w1, Below w.heap.size w w1 → Calls Try.prog 78 #[.agg #[.int .i64 W, .int .i64 H, .slice A n c], .agg #[.int .i64 0, .int .i64 0, .int .i64 W, .int .i64 H]] w1 (fun e w' => e = .returned (.slice none 0 0) ∧ Below w1.heap.size w1 w')) :
    Calls Try.prog 76 #[.agg #[.int .i64 W, .int .i64 H, .slice A n c], .func (.func 78) #[] #[]] w (fun e w' => e = .returned (.tuple #[.agg #[.int .i64 0, .int .i64 0, .slice none 0 0], .agg #[.int .i64 0, .int .i64 0, .slice none 0 0], .bool false]) ∧ Below w.heap.size w w') := by
  subst hl
  have K1 := PB.start w W H A L.length c
  obtain ⟨W1, hW1⟩ : ∃ x, x = (((w.alloc (.cells #[.int .i64 W, .int .i64 H, .slice A L.length c] 29)).alloc (.cells #[.int .i64 0, .int .i64 0, .slice none 0 0] 29)).alloc (.cells #[.int .i64 0, .int .i64 0, .slice none 0 0] 29)) := ⟨_, rfl⟩
  rw [← hW1] at K1
  go_enter Try.func76, Try.ntmps76
  go_wp2_with fail
  rw [← hW1]
  refine (callB_yes (isCut_good W H A _ c L _ rfl hc ((hL.below K1.below).mono K1.below.size) hwf) hG).mono ?_
  rintro e w2 ⟨rfl, hb2⟩
  have K2 := K1.next hb2
  clear hb2 K1 hW1
  have b0 := K2.a0
  have b1 := K2.a1
  have b2 := K2.a2
  have hzz := K2.size
  have HS : ∀ w' : World, Below w2.heap.size w2 w' → w'.cell? ⟨w.heap.size, 0, none⟩ = some (.int .i64 W) ∧ w'.cell? ⟨w.heap.size, 1, none⟩ = some (.int .i64 H) ∧ w'.cell? ⟨w.heap.size, 2, none⟩ = some (.slice A L.length c) := fun w' hb => ⟨(hb.cell (p := ⟨_, _, none⟩) (by show w.heap.size < _; omega)).trans b0, (hb.cell (p := ⟨_, _, none⟩) (by show w.heap.size < _; omega)).trans b1, (hb.cell (p := ⟨_, _, none⟩) (by show w.heap.size < _; omega)).trans b2⟩
  go_wp2_with fail
  refine wp_region_top 5 (fun w' => w'.cell? ⟨w.heap.size, 0, none⟩ = some (.int .i64 W) ∧ w'.cell? ⟨w.heap.size, 1, none⟩ = some (.int .i64 H) ∧ w'.cell? ⟨w.heap.size, 2, none⟩ = some (.slice A L.length c)) (by kernel_rfl) (HS _ ((Below.refl _ _).drew)) (fun hHeld => ?_)
  refine wpTop.take 0 (v := ?_) rfl (by kernel_rfl) (by kernel_rfl) (by kernel_rfl) (by kernel_rfl) (fun _ _ _ h => h) (Or.inl ⟨by rfl, ?_⟩) (by assumption) ?_
  rotate_left
  · intro w hSw; (try dsimp only at hSw); go_simp; try (with_reducible rfl)
  try simp only [Act.put, List.setIfInBounds_toArray, List.set_cons_zero, List.set_cons_succ, List.getElem_toArray, List.getElem_cons_zero, List.getElem_cons_succ]
  refine wpTop.take 1 (v := ?_) rfl (by kernel_rfl) (by kernel_rfl) (by kernel_rfl) (by kernel_rfl) (fun _ _ _ h => h) (Or.inl ⟨by rfl, ?_⟩) (by assumption) ?_
  rotate_left
  · intro w hSw; (try dsimp only at hSw); go_simp; try (with_reducible rfl)
  try simp only [Act.put, List.setIfInBounds_toArray, List.set_cons_zero, List.set_cons_succ, List.getElem_toArray, List.getElem_cons_zero, List.getElem_cons_succ]
  refine wpTop.take 2 (v := ?_) rfl (by kernel_rfl) (by kernel_rfl) (by kernel_rfl) (by kernel_rfl) (fun _ _ _ h => h) (Or.inl ⟨by rfl, ?_⟩) (by assumption) ?_
  rotate_left
  · intro w hSw; (try dsimp only at hSw); go_simp; try (with_reducible rfl)
  try simp only [Act.put, List.setIfInBounds_toArray, List.set_cons_zero, List.set_cons_succ, List.getElem_toArray, List.getElem_cons_zero, List.getElem_cons_succ]
  refine wpTop.one 3 rfl (by kernel_rfl) (fun K hK => ?_)
  go_simp
  (with_reducible refine (wholeArea_any W H A L.length c _).mono ?_)
  rintro e w3 ⟨rfl, hb3'⟩
  have hb3 : Below w2.heap.size w2 w3 := ((Below.refl w2.heap.size w2).drew).trans hb3'
  refine hK.out _ _ (fun _ => HS _ hb3) (fun hH => ?_)
  clear hK K
  have hHeld := hH (by decide)
  clear hH
  try simp only [Act.put, List.setIfInBounds_toArray, List.set_cons_zero, List.set_cons_succ, List.getElem_toArray, List.getElem_cons_zero, List.getElem_cons_succ]
  refine wpTop.one 4 rfl (by kernel_rfl) (fun K hK => ?_)
  go_simp
  (with_reducible refine (hF w3 (K2.next hb3).below).mono ?_)
  rintro e w4 ⟨rfl, hb4'⟩
  have hb4 : Below w2.heap.size w2 w4 := hb3.trans (hb4'.mono hb3.size)

  refine hK.out _ _ (fun _ => HS _ hb4) (fun hH => ?_)
  clear hK K
  have hHeld := hH (by decide)
  clear hH
  try simp only [Act.put, List.setIfInBounds_toArray, List.set_cons_zero, List.set_cons_succ, List.getElem_toArray, List.getElem_cons_zero, List.getElem_cons_succ]
  refine wpTop.one 5 rfl (by kernel_rfl) (fun K hK => ?_)
  go_simp

  refine hK.out _ _ (fun h => absurd h (by decide)) (fun hH => ?_)
  clear hK K
  clear hH
  try simp only [Act.put, List.setIfInBounds_toArray, List.set_cons_zero, List.set_cons_succ, List.getElem_toArray, List.getElem_cons_zero, List.getElem_cons_succ]
  refine wpTop.all (by kernel_rfl) ?_ _
  have hn := hG.2.2.1.2
  have hsm : ∀ s ∈ L, SmallS s := fun s hs => by have h := (good_fill hG).within s hs; have h1 := hG.1; have h2 := hG.2.1; unfold Within at h; unfold SmallS; omega
  
  have K4 := K2.next hb4
  clear K2 b0 b1 b2 hzz hb3 hb3' hb4' HS hb4 hHeld
  have b0 := K4.a0
  have b1 := K4.a1
  have b2 := K4.a2
  have hzz := K4.size
  have ⟨r0, r1, r2⟩ := K4.r 1 (.inl rfl)
  have ⟨s0, s1, s2⟩ := K4.r 2 (.inr rfl)
  have t0 := K4.f 1 0 (.inl rfl)
  have t1 := K4.f 1 1 (.inl rfl)
  have t2 := K4.f 1 2 (.inl rfl)
  have v0 := K4.f 2 0 (.inr rfl)
  have v1 := K4.f 2 1 (.inr rfl)
  have v2 := K4.f 2 2 (.inr rfl)
  go_wp2_with fail
  have hB := (((((K4.below.setCell (p := ⟨w.heap.size + 1, 0, none⟩) (by simp) (.int .i64 0)).setCell (p := ⟨w.heap.size + 1, 1, none⟩) (by simp) (.int .i64 0)).setCell (p := ⟨w.heap.size + 1, 2, none⟩) (by simp) (.slice none 0 0)).setCell (p := ⟨w.heap.size + 2, 0, none⟩) (by simp) (.int .i64 0)).setCell (p := ⟨w.heap.size + 2, 1, none⟩) (by simp) (.int .i64 0)).setCell (p := ⟨w.heap.size + 2, 2, none⟩) (by simp) (.slice none 0 0)
  refine bodyPost_ret (v := .tuple #[.agg #[.int .i64 0, .int .i64 0, .slice none 0 0], .agg #[.int .i64 0, .int .i64 0, .slice none 0 0], .bool false]) (by simp [results, Try.results76, go_sem, r0, r1, r2, s0, s1, s2]) rfl ?_
  exact ⟨rfl, hB⟩
set_option maxRecDepth 100000 in
set_option maxHeartbeats 4000000 in
theorem partYesDown (W H : Int) (A : Option Addr) (n c : Nat) (L : List Sq) (p0 p1 p2 p3 p4 p5 p6 p7 : Int) (hp : (0 ≤ p0 ∧ p0 ≤ 500) ∧ (0 ≤ p1 ∧ p1 ≤ 500) ∧ (0 ≤ p2 ∧ p2 ≤ 500) ∧ (0 ≤ p3 ∧ p3 ≤ 500) ∧ (0 ≤ p4 ∧ p4 ≤ 500) ∧ (0 ≤ p5 ∧ p5 ≤ 500) ∧ (0 ≤ p6 ∧ p6 ≤ 500) ∧ (0 ≤ p7 ∧ p7 ≤ 500)) (w : World) (hl : L.length = n) (hc : n ≤ c) (hL : SqsAt w w.heap.size A L) (hwf : ∀ s ∈ L, wfS s) (hG : Good W H L)
  (hF : ∀ w1, Below w.heap.size w w1 → Calls Try.prog 78 #[.agg #[.int .i64 W, .int .i64 H, .slice A n c], .agg #[.int .i64 0, .int .i64 0, .int .i64 W, .int .i64 H]] w1 (fun e w' => ∃ g, e = .returned (.slice (some ⟨g, 0, none⟩) 2 2) ∧ (w1.heap.size ≤ g ∧ g < w'.heap.size ∧ w'.cell? ⟨g, 0, none⟩ = some (.int .i64 p0) ∧ w'.cell? ⟨g, 1, none⟩ = some (.int .i64 p1) ∧ w'.cell? ⟨g, 2, none⟩ = some (.int .i64 p2) ∧ w'.cell? ⟨g, 3, none⟩ = some (.int .i64 p3) ∧ w'.cell? ⟨g, 4, none⟩ = some (.int .i64 p4) ∧ w'.cell? ⟨g, 5, none⟩ = some (.int .i64 p5) ∧ w'.cell? ⟨g, 6, none⟩ = some (.int .i64 p6) ∧ w'.cell? ⟨g, 7, none⟩ = some (.int .i64 p7)) ∧ Below w1.heap.size w1 w')) :
    Calls Try.prog 76 #[.agg #[.int .i64 W, .int .i64 H, .slice A n c], .func (.func 78) #[] #[]] w (fun e w' => RetTT w p2 p3 (ciL p0 p1 p2 p3 L) p6 p7 (ciL p4 p5 p6 p7 L) e w') := by
  subst hl
  have K1 := PB.start w W H A L.length c
  obtain ⟨W1, hW1⟩ : ∃ x, x = (((w.alloc (.cells #[.int .i64 W, .int .i64 H, .slice A L.length c] 29)).alloc (.cells #[.int .i64 0, .int .i64 0, .slice none 0 0] 29)).alloc (.cells #[.int .i64 0, .int .i64 0, .slice none 0 0] 29)) := ⟨_, rfl⟩
  rw [← hW1] at K1
  go_enter Try.func76, Try.ntmps76
  go_wp2_with fail
  rw [← hW1]
  refine (callB_yes (isCut_good W H A _ c L _ rfl hc ((hL.below K1.below).mono K1.below.size) hwf) hG).mono ?_
  rintro e w2 ⟨rfl, hb2⟩
  have K2 := K1.next hb2
  clear hb2 K1 hW1
  have b0 := K2.a0
  have b1 := K2.a1
  have b2 := K2.a2
  have hzz := K2.size
  have HS : ∀ w' : World, Below w2.heap.size w2 w' → w'.cell? ⟨w.heap.size, 0, none⟩ = some (.int .i64 W) ∧ w'.cell? ⟨w.heap.size, 1, none⟩ = some (.int .i64 H) ∧ w'.cell? ⟨w.heap.size, 2, none⟩ = some (.slice A L.length c) := fun w' hb => ⟨(hb.cell (p := ⟨_, _, none⟩) (by show w.heap.size < _; omega)).trans b0, (hb.cell (p := ⟨_, _, none⟩) (by show w.heap.size < _; omega)).trans b1, (hb.cell (p := ⟨_, _, none⟩) (by show w.heap.size < _; omega)).trans b2⟩
  go_wp2_with fail
  refine wp_region_top 5 (fun w' => w'.cell? ⟨w.heap.size, 0, none⟩ = some (.int .i64 W) ∧ w'.cell? ⟨w.heap.size, 1, none⟩ = some (.int .i64 H) ∧ w'.cell? ⟨w.heap.size, 2, none⟩ = some (.slice A L.length c)) (by kernel_rfl) (HS _ ((Below.refl _ _).drew)) (fun hHeld => ?_)
  refine wpTop.take 0 (v := ?_) rfl (by kernel_rfl) (by kernel_rfl) (by kernel_rfl) (by kernel_rfl) (fun _ _ _ h => h) (Or.inl ⟨by rfl, ?_⟩) (by assumption) ?_
  rotate_left
  · intro w hSw; (try dsimp only at hSw); go_simp; try (with_reducible rfl)
  try simp only [Act.put, List.setIfInBounds_toArray, List.set_cons_zero, List.set_cons_succ, List.getElem_toArray, List.getElem_cons_zero, List.getElem_cons_succ]
  refine wpTop.take 1 (v := ?_) rfl (by kernel_rfl) (by kernel_rfl) (by kernel_rfl) (by kernel_rfl) (fun _ _ _ h => h) (Or.inl ⟨by rfl, ?_⟩) (by assumption) ?_
  rotate_left
  · intro w hSw; (try dsimp only at hSw); go_simp; try (with_reducible rfl)
  try simp only [Act.put, List.setIfInBounds_toArray, List.set_cons_zero, List.set_cons_succ, List.getElem_toArray, List.getElem_cons_zero, List.getElem_cons_succ]
  refine wpTop.take 2 (v := ?_) rfl (by kernel_rfl) (by kernel_rfl) (by kernel_rfl) (by kernel_rfl) (fun _ _ _ h => h) (Or.inl ⟨by rfl, ?_⟩) (by assumption) ?_
  rotate_left
  · intro w hSw; (try dsimp only at hSw); go_simp; try (with_reducible rfl)
  try simp only [Act.put, List.setIfInBounds_toArray, List.set_cons_zero, List.set_cons_succ, List.getElem_toArray, List.getElem_cons_zero, List.getElem_cons_succ]
  refine wpTop.one 3 rfl (by kernel_rfl) (fun K hK => ?_)
  go_simp
  (with_reducible refine (wholeArea_any W H A L.length c _).mono ?_)
  rintro e w3 ⟨rfl, hb3'⟩
  have hb3 : Below w2.heap.size w2 w3 := ((Below.refl w2.heap.size w2).drew).trans hb3'
  refine hK.out _ _ (fun _ => HS _ hb3) (fun hH => ?_)
  clear hK K
  have hHeld := hH (by decide)
  clear hH
  try simp only [Act.put, List.setIfInBounds_toArray, List.set_cons_zero, List.set_cons_succ, List.getElem_toArray, List.getElem_cons_zero, List.getElem_cons_succ]
  refine wpTop.one 4 rfl (by kernel_rfl) (fun K hK => ?_)
  go_simp
  (with_reducible refine (hF w3 (K2.next hb3).below).mono ?_)
  rintro e w4 ⟨g, rfl, ⟨hg0, hg1, c0, c1, c2, c3, c4, c5, c6, c7⟩, hb4'⟩
  have hb4 : Below w2.heap.size w2 w4 := hb3.trans (hb4'.mono hb3.size)

  refine hK.out _ _ (fun _ => HS _ hb4) (fun hH => ?_)
  clear hK K
  have hHeld := hH (by decide)
  clear hH
  try simp only [Act.put, List.setIfInBounds_toArray, List.set_cons_zero, List.set_cons_succ, List.getElem_toArray, List.getElem_cons_zero, List.getElem_cons_succ]
  refine wpTop.one 5 rfl (by kernel_rfl) (fun K hK => ?_)
  go_simp

  refine hK.out _ _ (fun h => absurd h (by decide)) (fun hH => ?_)
  clear hK K
  clear hH
  try simp only [Act.put, List.setIfInBounds_toArray, List.set_cons_zero, List.set_cons_succ, List.getElem_toArray, List.getElem_cons_zero, List.getElem_cons_succ]
  refine wpTop.all (by kernel_rfl) ?_ _
  have hn := hG.2.2.1.2
  have hsm : ∀ s ∈ L, SmallS s := fun s hs => by have h := (good_fill hG).within s hs; have h1 := hG.1; have h2 := hG.2.1; unfold Within at h; unfold SmallS; omega
  have hg3 : w.heap.size + 3 ≤ g := by have := K2.size; have := hb3.size; omega
  have K4 := K2.next hb4
  clear K2 b0 b1 b2 hzz hb3 hb3' hb4' HS hb4 hHeld
  have b0 := K4.a0
  have b1 := K4.a1
  have b2 := K4.a2
  have hzz := K4.size
  have ⟨r0, r1, r2⟩ := K4.r 1 (.inl rfl)
  have ⟨s0, s1, s2⟩ := K4.r 2 (.inr rfl)
  have t0 := K4.f 1 0 (.inl rfl)
  have t1 := K4.f 1 1 (.inl rfl)
  have t2 := K4.f 1 2 (.inl rfl)
  have v0 := K4.f 2 0 (.inr rfl)
  have v1 := K4.f 2 1 (.inr rfl)
  have v2 := K4.f 2 2 (.inr rfl)
  go_wp2_with fail
  have hgN : g < w4.heap.size := hg1
  have HS : ∀ w' : World, Below w4.heap.size w4 w' → w'.cell? ⟨w.heap.size, 0, none⟩ = some (.int .i64 W) ∧ w'.cell? ⟨w.heap.size, 1, none⟩ = some (.int .i64 H) ∧ w'.cell? ⟨w.heap.size, 2, none⟩ = some (.slice A L.length c) ∧ w'.cell? ⟨g, 0, none⟩ = some (.int .i64 p0) ∧ w'.cell? ⟨g, 1, none⟩ = some (.int .i64 p1) ∧ w'.cell? ⟨g, 2, none⟩ = some (.int .i64 p2) ∧ w'.cell? ⟨g, 3, none⟩ = some (.int .i64 p3) ∧ w'.cell? ⟨g, 4, none⟩ = some (.int .i64 p4) ∧ w'.cell? ⟨g, 5, none⟩ = some (.int .i64 p5) ∧ w'.cell? ⟨g, 6, none⟩ = some (.int .i64 p6) ∧ w'.cell? ⟨g, 7, none⟩ = some (.int .i64 p7) := fun w' hb => ⟨(hb.cell (p := ⟨_, _, none⟩) (by show w.heap.size < _; omega)).trans b0, (hb.cell (p := ⟨_, _, none⟩) (by show w.heap.size < _; omega)).trans b1, (hb.cell (p := ⟨_, _, none⟩) (by show w.heap.size < _; omega)).trans b2, (hb.cell (p := ⟨_, _, none⟩) hgN).trans c0, (hb.cell (p := ⟨_, _, none⟩) hgN).trans c1, (hb.cell (p := ⟨_, _, none⟩) hgN).trans c2, (hb.cell (p := ⟨_, _, none⟩) hgN).trans c3, (hb.cell (p := ⟨_, _, none⟩) hgN).trans c4, (hb.cell (p := ⟨_, _, none⟩) hgN).trans c5, (hb.cell (p := ⟨_, _, none⟩) hgN).trans c6, (hb.cell (p := ⟨_, _, none⟩) hgN).trans c7⟩
  refine wp_region_top 11 (fun w' => w'.cell? ⟨w.heap.size, 0, none⟩ = some (.int .i64 W) ∧ w'.cell? ⟨w.heap.size, 1, none⟩ = some (.int .i64 H) ∧ w'.cell? ⟨w.heap.size, 2, none⟩ = some (.slice A L.length c) ∧ w'.cell? ⟨g, 0, none⟩ = some (.int .i64 p0) ∧ w'.cell? ⟨g, 1, none⟩ = some (.int .i64 p1) ∧ w'.cell? ⟨g, 2, none⟩ = some (.int .i64 p2) ∧ w'.cell? ⟨g, 3, none⟩ = some (.int .i64 p3) ∧ w'.cell? ⟨g, 4, none⟩ = some (.int .i64 p4) ∧ w'.cell? ⟨g, 5, none⟩ = some (.int .i64 p5) ∧ w'.cell? ⟨g, 6, none⟩ = some (.int .i64 p6) ∧ w'.cell? ⟨g, 7, none⟩ = some (.int .i64 p7)) (by kernel_rfl) (HS _ ((Below.refl _ _).drew)) (fun hHeld => ?_)
  refine wpTop.take 0 (v := ?_) rfl (by kernel_rfl) (by kernel_rfl) (by kernel_rfl) (by kernel_rfl) (fun _ _ _ h => h) (Or.inl ⟨by rfl, ?_⟩) (by assumption) ?_
  rotate_left
  · intro w hSw; (try dsimp only at hSw); go_simp; try (with_reducible rfl)
  try simp only [Act.put, List.setIfInBounds_toArray, List.set_cons_zero, List.set_cons_succ, List.getElem_toArray, List.getElem_cons_zero, List.getElem_cons_succ]
  refine wpTop.take 1 (v := ?_) rfl (by kernel_rfl) (by kernel_rfl) (by kernel_rfl) (by kernel_rfl) (fun _ _ _ h => h) (Or.inl ⟨by rfl, ?_⟩) (by assumption) ?_
  rotate_left
  · intro w hSw; (try dsimp only at hSw); go_simp; try (with_reducible rfl)
  try simp only [Act.put, List.setIfInBounds_toArray, List.set_cons_zero, List.set_cons_succ, List.getElem_toArray, List.getElem_cons_zero, List.getElem_cons_succ]
  refine wpTop.take 2 (v := ?_) rfl (by kernel_rfl) (by kernel_rfl) (by kernel_rfl) (by kernel_rfl) (fun _ _ _ h => h) (Or.inl ⟨by rfl, ?_⟩) (by assumption) ?_
  rotate_left
  · intro w hSw; (try dsimp only at hSw); go_simp; try (with_reducible rfl)
  try simp only [Act.put, List.setIfInBounds_toArray, List.set_cons_zero, List.set_cons_succ, List.getElem_toArray, List.getElem_cons_zero, List.getElem_cons_succ]
  refine wpTop.take 3 (v := ?_) rfl (by kernel_rfl) (by kernel_rfl) (by kernel_rfl) (by kernel_rfl) (fun _ _ _ h => h) (Or.inl ⟨by rfl, ?_⟩) (by assumption) ?_
  rotate_left
  · intro w hSw; (try dsimp only at hSw); go_simp; try (with_reducible rfl)
  try simp only [Act.put, List.setIfInBounds_toArray, List.set_cons_zero, List.set_cons_succ, List.getElem_toArray, List.getElem_cons_zero, List.getElem_cons_succ]
  refine wpTop.take 5 (v := ?_) rfl (by kernel_rfl) (by kernel_rfl) (by kernel_rfl) (by kernel_rfl) (fun _ _ _ h => h) (Or.inl ⟨by rfl, ?_⟩) (by assumption) ?_
  rotate_left
  · intro w hSw; (try dsimp only at hSw); go_simp; try (with_reducible rfl)
  try simp only [Act.put, List.setIfInBounds_toArray, List.set_cons_zero, List.set_cons_succ, List.getElem_toArray, List.getElem_cons_zero, List.getElem_cons_succ]
  refine wpTop.take 6 (v := ?_) rfl (by kernel_rfl) (by kernel_rfl) (by kernel_rfl) (by kernel_rfl) (fun _ _ _ h => h) (Or.inl ⟨by rfl, ?_⟩) (by assumption) ?_
  rotate_left
  · intro w hSw; (try dsimp only at hSw); go_simp; try (with_reducible rfl)
  try simp only [Act.put, List.setIfInBounds_toArray, List.set_cons_zero, List.set_cons_succ, List.getElem_toArray, List.getElem_cons_zero, List.getElem_cons_succ]
  refine wpTop.take 7 (v := ?_) rfl (by kernel_rfl) (by kernel_rfl) (by kernel_rfl) (by kernel_rfl) (fun _ _ _ h => h) (Or.inl ⟨by rfl, ?_⟩) (by assumption) ?_
  rotate_left
  · intro w hSw; (try dsimp only at hSw); go_simp; try (with_reducible rfl)
  try simp only [Act.put, List.setIfInBounds_toArray, List.set_cons_zero, List.set_cons_succ, List.getElem_toArray, List.getElem_cons_zero, List.getElem_cons_succ]
  refine wpTop.take 8 (v := ?_) rfl (by kernel_rfl) (by kernel_rfl) (by kernel_rfl) (by kernel_rfl) (fun _ _ _ h => h) (Or.inl ⟨by rfl, ?_⟩) (by assumption) ?_
  rotate_left
  · intro w hSw; (try dsimp only at hSw); go_simp; try (with_reducible rfl)
  try simp only [Act.put, List.setIfInBounds_toArray, List.set_cons_zero, List.set_cons_succ, List.getElem_toArray, List.getElem_cons_zero, List.getElem_cons_succ]
  refine wpTop.one 4 rfl (by kernel_rfl) (fun K hK => ?_)
  go_simp
  (with_reducible refine (cutIn_any W H A L.length c L p0 p1 p2 p3 _ rfl (by omega) ((hL.below (((K4.below).drew))).mono (by simpa using K4.below.size)) hsm hp.1 hp.2.1 hp.2.2.1 hp.2.2.2.1).mono ?_)
  rintro e w5 ⟨A5, c5, rfl, o5, hb5'⟩
  have hb5 : Below w4.heap.size w4 w5 := ((Below.refl w4.heap.size w4).drew).trans hb5'
  refine hK.out _ _ (fun _ => HS _ hb5) (fun hH => ?_)
  clear hK K
  have hHeld := hH (by decide)
  clear hH
  try simp only [Act.put, List.setIfInBounds_toArray, List.set_cons_zero, List.set_cons_succ, List.getElem_toArray, List.getElem_cons_zero, List.getElem_cons_succ]
  refine wpTop.one 9 rfl (by kernel_rfl) (fun K hK => ?_)
  go_simp
  (with_reducible refine (cutIn_any W H A L.length c L p4 p5 p6 p7 _ rfl (by omega) ((hL.below (K4.next hb5).below).mono (K4.next hb5).below.size) hsm hp.2.2.2.2.1 hp.2.2.2.2.2.1 hp.2.2.2.2.2.2.1 hp.2.2.2.2.2.2.2).mono ?_)
  rintro e w6 ⟨A6, c6, rfl, o6, hb6'⟩
  have hb6 : Below w4.heap.size w4 w6 := hb5.trans (hb6'.mono hb5.size)
  refine hK.out _ _ (fun _ => HS _ hb6) (fun hH => ?_)
  clear hK K
  have hHeld := hH (by decide)
  clear hH
  try simp only [Act.put, List.setIfInBounds_toArray, List.set_cons_zero, List.set_cons_succ, List.getElem_toArray, List.getElem_cons_zero, List.getElem_cons_succ]
  have K6 := K4.next hb6
  clear r0 r1 r2 s0 s1 s2 t0 t1 t2 v0 v1 v2
  have ⟨r0, r1, r2⟩ := K6.r 1 (.inl rfl)
  have ⟨s0, s1, s2⟩ := K6.r 2 (.inr rfl)
  have t0 := K6.f 1 0 (.inl rfl)
  have t1 := K6.f 1 1 (.inl rfl)
  have t2 := K6.f 1 2 (.inl rfl)
  have v0 := K6.f 2 0 (.inr rfl)
  have v1 := K6.f 2 1 (.inr rfl)
  have v2 := K6.f 2 2 (.inr rfl)
  refine wpTop.one 10 rfl (by kernel_rfl) (fun K hK => ?_)
  go_simp

  refine hK.out _ _ (fun _ => have h := HS _ hb6; ⟨far3 (w.heap.size + 1) (by simp) h.1, far3 (w.heap.size + 1) (by simp) h.2.1, far3 (w.heap.size + 1) (by simp) h.2.2.1, far3 (w.heap.size + 1) (by show g ≠ _; omega) h.2.2.2.1, far3 (w.heap.size + 1) (by show g ≠ _; omega) h.2.2.2.2.1, far3 (w.heap.size + 1) (by show g ≠ _; omega) h.2.2.2.2.2.1, far3 (w.heap.size + 1) (by show g ≠ _; omega) h.2.2.2.2.2.2.1, far3 (w.heap.size + 1) (by show g ≠ _; omega) h.2.2.2.2.2.2.2.1, far3 (w.heap.size + 1) (by show g ≠ _; omega) h.2.2.2.2.2.2.2.2.1, far3 (w.heap.size + 1) (by show g ≠ _; omega) h.2.2.2.2.2.2.2.2.2.1, far3 (w.heap.size + 1) (by show g ≠ _; omega) h.2.2.2.2.2.2.2.2.2.2⟩) (fun hH => ?_)
  clear hK K
  have hHeld := hH (by decide)
  clear hH
  try simp only [Act.put, List.setIfInBounds_toArray, List.set_cons_zero, List.set_cons_succ, List.getElem_toArray, List.getElem_cons_zero, List.getElem_cons_succ]
  refine wpTop.one 11 rfl (by kernel_rfl) (fun K hK => ?_)
  go_simp

  refine hK.out _ _ (fun h => absurd h (by decide)) (fun hH => ?_)
  clear hK K
  clear hH
  try simp only [Act.put, List.setIfInBounds_toArray, List.set_cons_zero, List.set_cons_succ, List.getElem_toArray, List.getElem_cons_zero, List.getElem_cons_succ]
  refine wpTop.one 12 rfl (by kernel_rfl) (fun K hK => ?_)
  go_simp

  refine hK.out _ _ (fun h => absurd h (by decide)) (fun hH => ?_)
  clear hK K
  clear hH
  try simp only [Act.put, List.setIfInBounds_toArray, List.set_cons_zero, List.set_cons_succ, List.getElem_toArray, List.getElem_cons_zero, List.getElem_cons_succ]
  refine wpTop.all (by kernel_rfl) ?_ _
  go_wp2_with fail
  have hB := (((((K6.below.setCell (p := ⟨w.heap.size + 1, 0, none⟩) (by simp) (.int .i64 p2)).setCell (p := ⟨w.heap.size + 1, 1, none⟩) (by simp) (.int .i64 p3)).setCell (p := ⟨w.heap.size + 1, 2, none⟩) (by simp) (.slice A5 (ciL p0 p1 p2 p3 L).length c5)).setCell (p := ⟨w.heap.size + 2, 0, none⟩) (by simp) (.int .i64 p6)).setCell (p := ⟨w.heap.size + 2, 1, none⟩) (by simp) (.int .i64 p7)).setCell (p := ⟨w.heap.size + 2, 2, none⟩) (by simp) (.slice A6 (ciL p4 p5 p6 p7 L).length c6)
  have hz4 := K4.size
  have hz5 := hb5.size
  have O5 := six (N := w.heap.size) (p2 := .int .i64 p2) (p3 := .int .i64 p3) (s5 := .slice A5 (ciL p0 p1 p2 p3 L).length c5) (p6 := .int .i64 p6) (p7 := .int .i64 p7) (s6 := .slice A6 (ciL p4 p5 p6 p7 L).length c6) (own_base (base' := w.heap.size + 3) (own_keep o5 hb6') (by simpa using hz4))
  have O6 := six (N := w.heap.size) (p2 := .int .i64 p2) (p3 := .int .i64 p3) (s5 := .slice A5 (ciL p0 p1 p2 p3 L).length c5) (p6 := .int .i64 p6) (p7 := .int .i64 p7) (s6 := .slice A6 (ciL p4 p5 p6 p7 L).length c6) (own_base (base' := w.heap.size + 3) o6 (by omega))
  refine bodyPost_ret (v := .tuple #[.agg #[.int .i64 p2, .int .i64 p3, .slice A5 (ciL p0 p1 p2 p3 L).length c5], .agg #[.int .i64 p6, .int .i64 p7, .slice A6 (ciL p4 p5 p6 p7 L).length c6], .bool true]) (by simp [results, Try.results76, go_sem, r0, r1, r2, s0, s1, s2]) rfl ?_
  exact ⟨A5, c5, A6, c6, rfl, O5, O6, fun g5 h5 h6 => absurd (o5.lt g5 h5).2 (Nat.not_lt.2 (o6.lt g5 h6).1), hB⟩
set_option maxRecDepth 100000 in
set_option maxHeartbeats 4000000 in
theorem partNoAcross (W H : Int) (A : Option Addr) (n c : Nat) (L : List Sq)  (w : World) (hl : L.length = n) (hc : n ≤ c) (hL : SqsAt w w.heap.size A L) (hwf : ∀ s ∈ L, wfS s) (hG : Good W H L)
  (hF : ∀ w1, Below w.heap.size w w1 → Calls Try.prog 77 #[.agg #[.int .i64 W, .int .i64 H, .slice A n c], .agg #[.int .i64 0, .int .i64 0, .int .i64 W, .int .i64 H]] w1 (fun e w' => e = .returned (.slice none 0 0) ∧ Below w1.heap.size w1 w')) :
    Calls Try.prog 76 #[.agg #[.int .i64 W, .int .i64 H, .slice A n c], .func (.func 77) #[] #[]] w (fun e w' => e = .returned (.tuple #[.agg #[.int .i64 0, .int .i64 0, .slice none 0 0], .agg #[.int .i64 0, .int .i64 0, .slice none 0 0], .bool false]) ∧ Below w.heap.size w w') := by
  subst hl
  have K1 := PB.start w W H A L.length c
  obtain ⟨W1, hW1⟩ : ∃ x, x = (((w.alloc (.cells #[.int .i64 W, .int .i64 H, .slice A L.length c] 29)).alloc (.cells #[.int .i64 0, .int .i64 0, .slice none 0 0] 29)).alloc (.cells #[.int .i64 0, .int .i64 0, .slice none 0 0] 29)) := ⟨_, rfl⟩
  rw [← hW1] at K1
  go_enter Try.func76, Try.ntmps76
  go_wp2_with fail
  rw [← hW1]
  refine (callB_yes (isCut_good W H A _ c L _ rfl hc ((hL.below K1.below).mono K1.below.size) hwf) hG).mono ?_
  rintro e w2 ⟨rfl, hb2⟩
  have K2 := K1.next hb2
  clear hb2 K1 hW1
  have b0 := K2.a0
  have b1 := K2.a1
  have b2 := K2.a2
  have hzz := K2.size
  have HS : ∀ w' : World, Below w2.heap.size w2 w' → w'.cell? ⟨w.heap.size, 0, none⟩ = some (.int .i64 W) ∧ w'.cell? ⟨w.heap.size, 1, none⟩ = some (.int .i64 H) ∧ w'.cell? ⟨w.heap.size, 2, none⟩ = some (.slice A L.length c) := fun w' hb => ⟨(hb.cell (p := ⟨_, _, none⟩) (by show w.heap.size < _; omega)).trans b0, (hb.cell (p := ⟨_, _, none⟩) (by show w.heap.size < _; omega)).trans b1, (hb.cell (p := ⟨_, _, none⟩) (by show w.heap.size < _; omega)).trans b2⟩
  go_wp2_with fail
  refine wp_region_top 5 (fun w' => w'.cell? ⟨w.heap.size, 0, none⟩ = some (.int .i64 W) ∧ w'.cell? ⟨w.heap.size, 1, none⟩ = some (.int .i64 H) ∧ w'.cell? ⟨w.heap.size, 2, none⟩ = some (.slice A L.length c)) (by kernel_rfl) (HS _ ((Below.refl _ _).drew)) (fun hHeld => ?_)
  refine wpTop.take 0 (v := ?_) rfl (by kernel_rfl) (by kernel_rfl) (by kernel_rfl) (by kernel_rfl) (fun _ _ _ h => h) (Or.inl ⟨by rfl, ?_⟩) (by assumption) ?_
  rotate_left
  · intro w hSw; (try dsimp only at hSw); go_simp; try (with_reducible rfl)
  try simp only [Act.put, List.setIfInBounds_toArray, List.set_cons_zero, List.set_cons_succ, List.getElem_toArray, List.getElem_cons_zero, List.getElem_cons_succ]
  refine wpTop.take 1 (v := ?_) rfl (by kernel_rfl) (by kernel_rfl) (by kernel_rfl) (by kernel_rfl) (fun _ _ _ h => h) (Or.inl ⟨by rfl, ?_⟩) (by assumption) ?_
  rotate_left
  · intro w hSw; (try dsimp only at hSw); go_simp; try (with_reducible rfl)
  try simp only [Act.put, List.setIfInBounds_toArray, List.set_cons_zero, List.set_cons_succ, List.getElem_toArray, List.getElem_cons_zero, List.getElem_cons_succ]
  refine wpTop.take 2 (v := ?_) rfl (by kernel_rfl) (by kernel_rfl) (by kernel_rfl) (by kernel_rfl) (fun _ _ _ h => h) (Or.inl ⟨by rfl, ?_⟩) (by assumption) ?_
  rotate_left
  · intro w hSw; (try dsimp only at hSw); go_simp; try (with_reducible rfl)
  try simp only [Act.put, List.setIfInBounds_toArray, List.set_cons_zero, List.set_cons_succ, List.getElem_toArray, List.getElem_cons_zero, List.getElem_cons_succ]
  refine wpTop.one 3 rfl (by kernel_rfl) (fun K hK => ?_)
  go_simp
  (with_reducible refine (wholeArea_any W H A L.length c _).mono ?_)
  rintro e w3 ⟨rfl, hb3'⟩
  have hb3 : Below w2.heap.size w2 w3 := ((Below.refl w2.heap.size w2).drew).trans hb3'
  refine hK.out _ _ (fun _ => HS _ hb3) (fun hH => ?_)
  clear hK K
  have hHeld := hH (by decide)
  clear hH
  try simp only [Act.put, List.setIfInBounds_toArray, List.set_cons_zero, List.set_cons_succ, List.getElem_toArray, List.getElem_cons_zero, List.getElem_cons_succ]
  refine wpTop.one 4 rfl (by kernel_rfl) (fun K hK => ?_)
  go_simp
  (with_reducible refine (hF w3 (K2.next hb3).below).mono ?_)
  rintro e w4 ⟨rfl, hb4'⟩
  have hb4 : Below w2.heap.size w2 w4 := hb3.trans (hb4'.mono hb3.size)

  refine hK.out _ _ (fun _ => HS _ hb4) (fun hH => ?_)
  clear hK K
  have hHeld := hH (by decide)
  clear hH
  try simp only [Act.put, List.setIfInBounds_toArray, List.set_cons_zero, List.set_cons_succ, List.getElem_toArray, List.getElem_cons_zero, List.getElem_cons_succ]
  refine wpTop.one 5 rfl (by kernel_rfl) (fun K hK => ?_)
  go_simp

  refine hK.out _ _ (fun h => absurd h (by decide)) (fun hH => ?_)
  clear hK K
  clear hH
  try simp only [Act.put, List.setIfInBounds_toArray, List.set_cons_zero, List.set_cons_succ, List.getElem_toArray, List.getElem_cons_zero, List.getElem_cons_succ]
  refine wpTop.all (by kernel_rfl) ?_ _
  have hn := hG.2.2.1.2
  have hsm : ∀ s ∈ L, SmallS s := fun s hs => by have h := (good_fill hG).within s hs; have h1 := hG.1; have h2 := hG.2.1; unfold Within at h; unfold SmallS; omega
  
  have K4 := K2.next hb4
  clear K2 b0 b1 b2 hzz hb3 hb3' hb4' HS hb4 hHeld
  have b0 := K4.a0
  have b1 := K4.a1
  have b2 := K4.a2
  have hzz := K4.size
  have ⟨r0, r1, r2⟩ := K4.r 1 (.inl rfl)
  have ⟨s0, s1, s2⟩ := K4.r 2 (.inr rfl)
  have t0 := K4.f 1 0 (.inl rfl)
  have t1 := K4.f 1 1 (.inl rfl)
  have t2 := K4.f 1 2 (.inl rfl)
  have v0 := K4.f 2 0 (.inr rfl)
  have v1 := K4.f 2 1 (.inr rfl)
  have v2 := K4.f 2 2 (.inr rfl)
  go_wp2_with fail
  have hB := (((((K4.below.setCell (p := ⟨w.heap.size + 1, 0, none⟩) (by simp) (.int .i64 0)).setCell (p := ⟨w.heap.size + 1, 1, none⟩) (by simp) (.int .i64 0)).setCell (p := ⟨w.heap.size + 1, 2, none⟩) (by simp) (.slice none 0 0)).setCell (p := ⟨w.heap.size + 2, 0, none⟩) (by simp) (.int .i64 0)).setCell (p := ⟨w.heap.size + 2, 1, none⟩) (by simp) (.int .i64 0)).setCell (p := ⟨w.heap.size + 2, 2, none⟩) (by simp) (.slice none 0 0)
  refine bodyPost_ret (v := .tuple #[.agg #[.int .i64 0, .int .i64 0, .slice none 0 0], .agg #[.int .i64 0, .int .i64 0, .slice none 0 0], .bool false]) (by simp [results, Try.results76, go_sem, r0, r1, r2, s0, s1, s2]) rfl ?_
  exact ⟨rfl, hB⟩
set_option maxRecDepth 100000 in
set_option maxHeartbeats 4000000 in
theorem partYesAcross (W H : Int) (A : Option Addr) (n c : Nat) (L : List Sq) (p0 p1 p2 p3 p4 p5 p6 p7 : Int) (hp : (0 ≤ p0 ∧ p0 ≤ 500) ∧ (0 ≤ p1 ∧ p1 ≤ 500) ∧ (0 ≤ p2 ∧ p2 ≤ 500) ∧ (0 ≤ p3 ∧ p3 ≤ 500) ∧ (0 ≤ p4 ∧ p4 ≤ 500) ∧ (0 ≤ p5 ∧ p5 ≤ 500) ∧ (0 ≤ p6 ∧ p6 ≤ 500) ∧ (0 ≤ p7 ∧ p7 ≤ 500)) (w : World) (hl : L.length = n) (hc : n ≤ c) (hL : SqsAt w w.heap.size A L) (hwf : ∀ s ∈ L, wfS s) (hG : Good W H L)
  (hF : ∀ w1, Below w.heap.size w w1 → Calls Try.prog 77 #[.agg #[.int .i64 W, .int .i64 H, .slice A n c], .agg #[.int .i64 0, .int .i64 0, .int .i64 W, .int .i64 H]] w1 (fun e w' => ∃ g, e = .returned (.slice (some ⟨g, 0, none⟩) 2 2) ∧ (w1.heap.size ≤ g ∧ g < w'.heap.size ∧ w'.cell? ⟨g, 0, none⟩ = some (.int .i64 p0) ∧ w'.cell? ⟨g, 1, none⟩ = some (.int .i64 p1) ∧ w'.cell? ⟨g, 2, none⟩ = some (.int .i64 p2) ∧ w'.cell? ⟨g, 3, none⟩ = some (.int .i64 p3) ∧ w'.cell? ⟨g, 4, none⟩ = some (.int .i64 p4) ∧ w'.cell? ⟨g, 5, none⟩ = some (.int .i64 p5) ∧ w'.cell? ⟨g, 6, none⟩ = some (.int .i64 p6) ∧ w'.cell? ⟨g, 7, none⟩ = some (.int .i64 p7)) ∧ Below w1.heap.size w1 w')) :
    Calls Try.prog 76 #[.agg #[.int .i64 W, .int .i64 H, .slice A n c], .func (.func 77) #[] #[]] w (fun e w' => RetTT w p2 p3 (ciL p0 p1 p2 p3 L) p6 p7 (ciL p4 p5 p6 p7 L) e w') := by
  subst hl
  have K1 := PB.start w W H A L.length c
  obtain ⟨W1, hW1⟩ : ∃ x, x = (((w.alloc (.cells #[.int .i64 W, .int .i64 H, .slice A L.length c] 29)).alloc (.cells #[.int .i64 0, .int .i64 0, .slice none 0 0] 29)).alloc (.cells #[.int .i64 0, .int .i64 0, .slice none 0 0] 29)) := ⟨_, rfl⟩
  rw [← hW1] at K1
  go_enter Try.func76, Try.ntmps76
  go_wp2_with fail
  rw [← hW1]
  refine (callB_yes (isCut_good W H A _ c L _ rfl hc ((hL.below K1.below).mono K1.below.size) hwf) hG).mono ?_
  rintro e w2 ⟨rfl, hb2⟩
  have K2 := K1.next hb2
  clear hb2 K1 hW1
  have b0 := K2.a0
  have b1 := K2.a1
  have b2 := K2.a2
  have hzz := K2.size
  have HS : ∀ w' : World, Below w2.heap.size w2 w' → w'.cell? ⟨w.heap.size, 0, none⟩ = some (.int .i64 W) ∧ w'.cell? ⟨w.heap.size, 1, none⟩ = some (.int .i64 H) ∧ w'.cell? ⟨w.heap.size, 2, none⟩ = some (.slice A L.length c) := fun w' hb => ⟨(hb.cell (p := ⟨_, _, none⟩) (by show w.heap.size < _; omega)).trans b0, (hb.cell (p := ⟨_, _, none⟩) (by show w.heap.size < _; omega)).trans b1, (hb.cell (p := ⟨_, _, none⟩) (by show w.heap.size < _; omega)).trans b2⟩
  go_wp2_with fail
  refine wp_region_top 5 (fun w' => w'.cell? ⟨w.heap.size, 0, none⟩ = some (.int .i64 W) ∧ w'.cell? ⟨w.heap.size, 1, none⟩ = some (.int .i64 H) ∧ w'.cell? ⟨w.heap.size, 2, none⟩ = some (.slice A L.length c)) (by kernel_rfl) (HS _ ((Below.refl _ _).drew)) (fun hHeld => ?_)
  refine wpTop.take 0 (v := ?_) rfl (by kernel_rfl) (by kernel_rfl) (by kernel_rfl) (by kernel_rfl) (fun _ _ _ h => h) (Or.inl ⟨by rfl, ?_⟩) (by assumption) ?_
  rotate_left
  · intro w hSw; (try dsimp only at hSw); go_simp; try (with_reducible rfl)
  try simp only [Act.put, List.setIfInBounds_toArray, List.set_cons_zero, List.set_cons_succ, List.getElem_toArray, List.getElem_cons_zero, List.getElem_cons_succ]
  refine wpTop.take 1 (v := ?_) rfl (by kernel_rfl) (by kernel_rfl) (by kernel_rfl) (by kernel_rfl) (fun _ _ _ h => h) (Or.inl ⟨by rfl, ?_⟩) (by assumption) ?_
  rotate_left
  · intro w hSw; (try dsimp only at hSw); go_simp; try (with_reducible rfl)
  try simp only [Act.put, List.setIfInBounds_toArray, List.set_cons_zero, List.set_cons_succ, List.getElem_toArray, List.getElem_cons_zero, List.getElem_cons_succ]
  refine wpTop.take 2 (v := ?_) rfl (by kernel_rfl) (by kernel_rfl) (by kernel_rfl) (by kernel_rfl) (fun _ _ _ h => h) (Or.inl ⟨by rfl, ?_⟩) (by assumption) ?_
  rotate_left
  · intro w hSw; (try dsimp only at hSw); go_simp; try (with_reducible rfl)
  try simp only [Act.put, List.setIfInBounds_toArray, List.set_cons_zero, List.set_cons_succ, List.getElem_toArray, List.getElem_cons_zero, List.getElem_cons_succ]
  refine wpTop.one 3 rfl (by kernel_rfl) (fun K hK => ?_)
  go_simp
  (with_reducible refine (wholeArea_any W H A L.length c _).mono ?_)
  rintro e w3 ⟨rfl, hb3'⟩
  have hb3 : Below w2.heap.size w2 w3 := ((Below.refl w2.heap.size w2).drew).trans hb3'
  refine hK.out _ _ (fun _ => HS _ hb3) (fun hH => ?_)
  clear hK K
  have hHeld := hH (by decide)
  clear hH
  try simp only [Act.put, List.setIfInBounds_toArray, List.set_cons_zero, List.set_cons_succ, List.getElem_toArray, List.getElem_cons_zero, List.getElem_cons_succ]
  refine wpTop.one 4 rfl (by kernel_rfl) (fun K hK => ?_)
  go_simp
  (with_reducible refine (hF w3 (K2.next hb3).below).mono ?_)
  rintro e w4 ⟨g, rfl, ⟨hg0, hg1, c0, c1, c2, c3, c4, c5, c6, c7⟩, hb4'⟩
  have hb4 : Below w2.heap.size w2 w4 := hb3.trans (hb4'.mono hb3.size)

  refine hK.out _ _ (fun _ => HS _ hb4) (fun hH => ?_)
  clear hK K
  have hHeld := hH (by decide)
  clear hH
  try simp only [Act.put, List.setIfInBounds_toArray, List.set_cons_zero, List.set_cons_succ, List.getElem_toArray, List.getElem_cons_zero, List.getElem_cons_succ]
  refine wpTop.one 5 rfl (by kernel_rfl) (fun K hK => ?_)
  go_simp

  refine hK.out _ _ (fun h => absurd h (by decide)) (fun hH => ?_)
  clear hK K
  clear hH
  try simp only [Act.put, List.setIfInBounds_toArray, List.set_cons_zero, List.set_cons_succ, List.getElem_toArray, List.getElem_cons_zero, List.getElem_cons_succ]
  refine wpTop.all (by kernel_rfl) ?_ _
  have hn := hG.2.2.1.2
  have hsm : ∀ s ∈ L, SmallS s := fun s hs => by have h := (good_fill hG).within s hs; have h1 := hG.1; have h2 := hG.2.1; unfold Within at h; unfold SmallS; omega
  have hg3 : w.heap.size + 3 ≤ g := by have := K2.size; have := hb3.size; omega
  have K4 := K2.next hb4
  clear K2 b0 b1 b2 hzz hb3 hb3' hb4' HS hb4 hHeld
  have b0 := K4.a0
  have b1 := K4.a1
  have b2 := K4.a2
  have hzz := K4.size
  have ⟨r0, r1, r2⟩ := K4.r 1 (.inl rfl)
  have ⟨s0, s1, s2⟩ := K4.r 2 (.inr rfl)
  have t0 := K4.f 1 0 (.inl rfl)
  have t1 := K4.f 1 1 (.inl rfl)
  have t2 := K4.f 1 2 (.inl rfl)
  have v0 := K4.f 2 0 (.inr rfl)
  have v1 := K4.f 2 1 (.inr rfl)
  have v2 := K4.f 2 2 (.inr rfl)
  go_wp2_with fail
  have hgN : g < w4.heap.size := hg1
  have HS : ∀ w' : World, Below w4.heap.size w4 w' → w'.cell? ⟨w.heap.size, 0, none⟩ = some (.int .i64 W) ∧ w'.cell? ⟨w.heap.size, 1, none⟩ = some (.int .i64 H) ∧ w'.cell? ⟨w.heap.size, 2, none⟩ = some (.slice A L.length c) ∧ w'.cell? ⟨g, 0, none⟩ = some (.int .i64 p0) ∧ w'.cell? ⟨g, 1, none⟩ = some (.int .i64 p1) ∧ w'.cell? ⟨g, 2, none⟩ = some (.int .i64 p2) ∧ w'.cell? ⟨g, 3, none⟩ = some (.int .i64 p3) ∧ w'.cell? ⟨g, 4, none⟩ = some (.int .i64 p4) ∧ w'.cell? ⟨g, 5, none⟩ = some (.int .i64 p5) ∧ w'.cell? ⟨g, 6, none⟩ = some (.int .i64 p6) ∧ w'.cell? ⟨g, 7, none⟩ = some (.int .i64 p7) := fun w' hb => ⟨(hb.cell (p := ⟨_, _, none⟩) (by show w.heap.size < _; omega)).trans b0, (hb.cell (p := ⟨_, _, none⟩) (by show w.heap.size < _; omega)).trans b1, (hb.cell (p := ⟨_, _, none⟩) (by show w.heap.size < _; omega)).trans b2, (hb.cell (p := ⟨_, _, none⟩) hgN).trans c0, (hb.cell (p := ⟨_, _, none⟩) hgN).trans c1, (hb.cell (p := ⟨_, _, none⟩) hgN).trans c2, (hb.cell (p := ⟨_, _, none⟩) hgN).trans c3, (hb.cell (p := ⟨_, _, none⟩) hgN).trans c4, (hb.cell (p := ⟨_, _, none⟩) hgN).trans c5, (hb.cell (p := ⟨_, _, none⟩) hgN).trans c6, (hb.cell (p := ⟨_, _, none⟩) hgN).trans c7⟩
  refine wp_region_top 11 (fun w' => w'.cell? ⟨w.heap.size, 0, none⟩ = some (.int .i64 W) ∧ w'.cell? ⟨w.heap.size, 1, none⟩ = some (.int .i64 H) ∧ w'.cell? ⟨w.heap.size, 2, none⟩ = some (.slice A L.length c) ∧ w'.cell? ⟨g, 0, none⟩ = some (.int .i64 p0) ∧ w'.cell? ⟨g, 1, none⟩ = some (.int .i64 p1) ∧ w'.cell? ⟨g, 2, none⟩ = some (.int .i64 p2) ∧ w'.cell? ⟨g, 3, none⟩ = some (.int .i64 p3) ∧ w'.cell? ⟨g, 4, none⟩ = some (.int .i64 p4) ∧ w'.cell? ⟨g, 5, none⟩ = some (.int .i64 p5) ∧ w'.cell? ⟨g, 6, none⟩ = some (.int .i64 p6) ∧ w'.cell? ⟨g, 7, none⟩ = some (.int .i64 p7)) (by kernel_rfl) (HS _ ((Below.refl _ _).drew)) (fun hHeld => ?_)
  refine wpTop.take 0 (v := ?_) rfl (by kernel_rfl) (by kernel_rfl) (by kernel_rfl) (by kernel_rfl) (fun _ _ _ h => h) (Or.inl ⟨by rfl, ?_⟩) (by assumption) ?_
  rotate_left
  · intro w hSw; (try dsimp only at hSw); go_simp; try (with_reducible rfl)
  try simp only [Act.put, List.setIfInBounds_toArray, List.set_cons_zero, List.set_cons_succ, List.getElem_toArray, List.getElem_cons_zero, List.getElem_cons_succ]
  refine wpTop.take 1 (v := ?_) rfl (by kernel_rfl) (by kernel_rfl) (by kernel_rfl) (by kernel_rfl) (fun _ _ _ h => h) (Or.inl ⟨by rfl, ?_⟩) (by assumption) ?_
  rotate_left
  · intro w hSw; (try dsimp only at hSw); go_simp; try (with_reducible rfl)
  try simp only [Act.put, List.setIfInBounds_toArray, List.set_cons_zero, List.set_cons_succ, List.getElem_toArray, List.getElem_cons_zero, List.getElem_cons_succ]
  refine wpTop.take 2 (v := ?_) rfl (by kernel_rfl) (by kernel_rfl) (by kernel_rfl) (by kernel_rfl) (fun _ _ _ h => h) (Or.inl ⟨by rfl, ?_⟩) (by assumption) ?_
  rotate_left
  · intro w hSw; (try dsimp only at hSw); go_simp; try (with_reducible rfl)
  try simp only [Act.put, List.setIfInBounds_toArray, List.set_cons_zero, List.set_cons_succ, List.getElem_toArray, List.getElem_cons_zero, List.getElem_cons_succ]
  refine wpTop.take 3 (v := ?_) rfl (by kernel_rfl) (by kernel_rfl) (by kernel_rfl) (by kernel_rfl) (fun _ _ _ h => h) (Or.inl ⟨by rfl, ?_⟩) (by assumption) ?_
  rotate_left
  · intro w hSw; (try dsimp only at hSw); go_simp; try (with_reducible rfl)
  try simp only [Act.put, List.setIfInBounds_toArray, List.set_cons_zero, List.set_cons_succ, List.getElem_toArray, List.getElem_cons_zero, List.getElem_cons_succ]
  refine wpTop.take 5 (v := ?_) rfl (by kernel_rfl) (by kernel_rfl) (by kernel_rfl) (by kernel_rfl) (fun _ _ _ h => h) (Or.inl ⟨by rfl, ?_⟩) (by assumption) ?_
  rotate_left
  · intro w hSw; (try dsimp only at hSw); go_simp; try (with_reducible rfl)
  try simp only [Act.put, List.setIfInBounds_toArray, List.set_cons_zero, List.set_cons_succ, List.getElem_toArray, List.getElem_cons_zero, List.getElem_cons_succ]
  refine wpTop.take 6 (v := ?_) rfl (by kernel_rfl) (by kernel_rfl) (by kernel_rfl) (by kernel_rfl) (fun _ _ _ h => h) (Or.inl ⟨by rfl, ?_⟩) (by assumption) ?_
  rotate_left
  · intro w hSw; (try dsimp only at hSw); go_simp; try (with_reducible rfl)
  try simp only [Act.put, List.setIfInBounds_toArray, List.set_cons_zero, List.set_cons_succ, List.getElem_toArray, List.getElem_cons_zero, List.getElem_cons_succ]
  refine wpTop.take 7 (v := ?_) rfl (by kernel_rfl) (by kernel_rfl) (by kernel_rfl) (by kernel_rfl) (fun _ _ _ h => h) (Or.inl ⟨by rfl, ?_⟩) (by assumption) ?_
  rotate_left
  · intro w hSw; (try dsimp only at hSw); go_simp; try (with_reducible rfl)
  try simp only [Act.put, List.setIfInBounds_toArray, List.set_cons_zero, List.set_cons_succ, List.getElem_toArray, List.getElem_cons_zero, List.getElem_cons_succ]
  refine wpTop.take 8 (v := ?_) rfl (by kernel_rfl) (by kernel_rfl) (by kernel_rfl) (by kernel_rfl) (fun _ _ _ h => h) (Or.inl ⟨by rfl, ?_⟩) (by assumption) ?_
  rotate_left
  · intro w hSw; (try dsimp only at hSw); go_simp; try (with_reducible rfl)
  try simp only [Act.put, List.setIfInBounds_toArray, List.set_cons_zero, List.set_cons_succ, List.getElem_toArray, List.getElem_cons_zero, List.getElem_cons_succ]
  refine wpTop.one 4 rfl (by kernel_rfl) (fun K hK => ?_)
  go_simp
  (with_reducible refine (cutIn_any W H A L.length c L p0 p1 p2 p3 _ rfl (by omega) ((hL.below (((K4.below).drew))).mono (by simpa using K4.below.size)) hsm hp.1 hp.2.1 hp.2.2.1 hp.2.2.2.1).mono ?_)
  rintro e w5 ⟨A5, c5, rfl, o5, hb5'⟩
  have hb5 : Below w4.heap.size w4 w5 := ((Below.refl w4.heap.size w4).drew).trans hb5'
  refine hK.out _ _ (fun _ => HS _ hb5) (fun hH => ?_)
  clear hK K
  have hHeld := hH (by decide)
  clear hH
  try simp only [Act.put, List.setIfInBounds_toArray, List.set_cons_zero, List.set_cons_succ, List.getElem_toArray, List.getElem_cons_zero, List.getElem_cons_succ]
  refine wpTop.one 9 rfl (by kernel_rfl) (fun K hK => ?_)
  go_simp
  (with_reducible refine (cutIn_any W H A L.length c L p4 p5 p6 p7 _ rfl (by omega) ((hL.below (K4.next hb5).below).mono (K4.next hb5).below.size) hsm hp.2.2.2.2.1 hp.2.2.2.2.2.1 hp.2.2.2.2.2.2.1 hp.2.2.2.2.2.2.2).mono ?_)
  rintro e w6 ⟨A6, c6, rfl, o6, hb6'⟩
  have hb6 : Below w4.heap.size w4 w6 := hb5.trans (hb6'.mono hb5.size)
  refine hK.out _ _ (fun _ => HS _ hb6) (fun hH => ?_)
  clear hK K
  have hHeld := hH (by decide)
  clear hH
  try simp only [Act.put, List.setIfInBounds_toArray, List.set_cons_zero, List.set_cons_succ, List.getElem_toArray, List.getElem_cons_zero, List.getElem_cons_succ]
  have K6 := K4.next hb6
  clear r0 r1 r2 s0 s1 s2 t0 t1 t2 v0 v1 v2
  have ⟨r0, r1, r2⟩ := K6.r 1 (.inl rfl)
  have ⟨s0, s1, s2⟩ := K6.r 2 (.inr rfl)
  have t0 := K6.f 1 0 (.inl rfl)
  have t1 := K6.f 1 1 (.inl rfl)
  have t2 := K6.f 1 2 (.inl rfl)
  have v0 := K6.f 2 0 (.inr rfl)
  have v1 := K6.f 2 1 (.inr rfl)
  have v2 := K6.f 2 2 (.inr rfl)
  refine wpTop.one 10 rfl (by kernel_rfl) (fun K hK => ?_)
  go_simp

  refine hK.out _ _ (fun _ => have h := HS _ hb6; ⟨far3 (w.heap.size + 1) (by simp) h.1, far3 (w.heap.size + 1) (by simp) h.2.1, far3 (w.heap.size + 1) (by simp) h.2.2.1, far3 (w.heap.size + 1) (by show g ≠ _; omega) h.2.2.2.1, far3 (w.heap.size + 1) (by show g ≠ _; omega) h.2.2.2.2.1, far3 (w.heap.size + 1) (by show g ≠ _; omega) h.2.2.2.2.2.1, far3 (w.heap.size + 1) (by show g ≠ _; omega) h.2.2.2.2.2.2.1, far3 (w.heap.size + 1) (by show g ≠ _; omega) h.2.2.2.2.2.2.2.1, far3 (w.heap.size + 1) (by show g ≠ _; omega) h.2.2.2.2.2.2.2.2.1, far3 (w.heap.size + 1) (by show g ≠ _; omega) h.2.2.2.2.2.2.2.2.2.1, far3 (w.heap.size + 1) (by show g ≠ _; omega) h.2.2.2.2.2.2.2.2.2.2⟩) (fun hH => ?_)
  clear hK K
  have hHeld := hH (by decide)
  clear hH
  try simp only [Act.put, List.setIfInBounds_toArray, List.set_cons_zero, List.set_cons_succ, List.getElem_toArray, List.getElem_cons_zero, List.getElem_cons_succ]
  refine wpTop.one 11 rfl (by kernel_rfl) (fun K hK => ?_)
  go_simp

  refine hK.out _ _ (fun h => absurd h (by decide)) (fun hH => ?_)
  clear hK K
  clear hH
  try simp only [Act.put, List.setIfInBounds_toArray, List.set_cons_zero, List.set_cons_succ, List.getElem_toArray, List.getElem_cons_zero, List.getElem_cons_succ]
  refine wpTop.one 12 rfl (by kernel_rfl) (fun K hK => ?_)
  go_simp

  refine hK.out _ _ (fun h => absurd h (by decide)) (fun hH => ?_)
  clear hK K
  clear hH
  try simp only [Act.put, List.setIfInBounds_toArray, List.set_cons_zero, List.set_cons_succ, List.getElem_toArray, List.getElem_cons_zero, List.getElem_cons_succ]
  refine wpTop.all (by kernel_rfl) ?_ _
  go_wp2_with fail
  have hB := (((((K6.below.setCell (p := ⟨w.heap.size + 1, 0, none⟩) (by simp) (.int .i64 p2)).setCell (p := ⟨w.heap.size + 1, 1, none⟩) (by simp) (.int .i64 p3)).setCell (p := ⟨w.heap.size + 1, 2, none⟩) (by simp) (.slice A5 (ciL p0 p1 p2 p3 L).length c5)).setCell (p := ⟨w.heap.size + 2, 0, none⟩) (by simp) (.int .i64 p6)).setCell (p := ⟨w.heap.size + 2, 1, none⟩) (by simp) (.int .i64 p7)).setCell (p := ⟨w.heap.size + 2, 2, none⟩) (by simp) (.slice A6 (ciL p4 p5 p6 p7 L).length c6)
  have hz4 := K4.size
  have hz5 := hb5.size
  have O5 := six (N := w.heap.size) (p2 := .int .i64 p2) (p3 := .int .i64 p3) (s5 := .slice A5 (ciL p0 p1 p2 p3 L).length c5) (p6 := .int .i64 p6) (p7 := .int .i64 p7) (s6 := .slice A6 (ciL p4 p5 p6 p7 L).length c6) (own_base (base' := w.heap.size + 3) (own_keep o5 hb6') (by simpa using hz4))
  have O6 := six (N := w.heap.size) (p2 := .int .i64 p2) (p3 := .int .i64 p3) (s5 := .slice A5 (ciL p0 p1 p2 p3 L).length c5) (p6 := .int .i64 p6) (p7 := .int .i64 p7) (s6 := .slice A6 (ciL p4 p5 p6 p7 L).length c6) (own_base (base' := w.heap.size + 3) o6 (by omega))
  refine bodyPost_ret (v := .tuple #[.agg #[.int .i64 p2, .int .i64 p3, .slice A5 (ciL p0 p1 p2 p3 L).length c5], .agg #[.int .i64 p6, .int .i64 p7, .slice A6 (ciL p4 p5 p6 p7 L).length c6], .bool true]) (by simp [results, Try.results76, go_sem, r0, r1, r2, s0, s1, s2]) rfl ?_
  exact ⟨A5, c5, A6, c6, rfl, O5, O6, fun g5 h5 h6 => absurd (o5.lt g5 h5).2 (Nat.not_lt.2 (o6.lt g5 h6).1), hB⟩
end Go.Proofs.Ytilneimiedfjnaa
