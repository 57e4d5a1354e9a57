/- Desks as the laws have them: sizes, copies, an argument that is a desk. -/
import Derived.Test.YtdgmllgmfbhceaaDk
import Derived.Test.YtdgmllgmfbhceaaOpen
set_option linter.all false
namespace Go.Proofs.Ytdgmllgmfbhceaa
open Go.RowKit

theorem szCutD_ok (W H : Int) (A : Option Addr) (n c : Nat) (left : Int) (w : World) (h1 : left ≤ 1048576) (h : (n : Int) ≤ left) :
    Calls Try.prog 22 #[.agg #[.int .i64 W, .int .i64 H, .slice A n c], .int .i64 left] w fun e w' => e = .returned (.int .i64 (left - n)) ∧ Below w.heap.size w w' := by
  have h' : ¬ left - n < 0 := by omega
  go_enter Try.func22, Try.ntmps22
  go_wp2_with fail
  refine (szSquareS_ok A n c _ _ h1 h).mono ?_
  rintro e w' ⟨rfl, rfl⟩
  go_wp2
  go_ret
  exact ⟨rfl, (Below.refl _ _).alloc (Nat.le_refl _) _⟩
theorem szCutD_over (W H : Int) (A : Option Addr) (n c : Nat) (left : Int) (w : World) (h0 : 0 ≤ left) (h1 : left ≤ 1048576) (h : left < n) (hn : n ≤ 9223372036854775807) :
    Calls Try.prog 22 #[.agg #[.int .i64 W, .int .i64 H, .slice A n c], .int .i64 left] w fun e w' => e = .returned (.int .i64 (-1)) ∧ Below w.heap.size w w' := by
  go_enter Try.func22, Try.ntmps22
  go_wp2_with fail
  refine (szSquareS_over A n c _ _ h0 h hn).mono ?_
  rintro e w' ⟨rfl, rfl⟩
  go_wp2
  go_ret
  exact ⟨rfl, (Below.refl _ _).alloc (Nat.le_refl _) _⟩
set_option maxRecDepth 100000 in
theorem szDesk_ok (X Y : Int) (A : Option Addr) (n c : Nat) (X' Y' : Int) (A' : Option Addr) (n' c' : Nat) (w : World) (h : n + n' ≤ 1048576) :
    Calls Try.prog 6 #[.agg #[.int .i64 X, .int .i64 Y, .slice A n c, .int .i64 X', .int .i64 Y', .slice A' n' c'], .int .i64 1048576] w fun e w' => e = .returned (.int .i64 (1048576 - n - n')) ∧ Below w.heap.size w w' := by
  have D0 := Dx.start w X Y A n c X' Y' A' n' c' 26
  obtain ⟨W1, hW1⟩ : ∃ W1, W1 = w.alloc (.cells #[.int .i64 X, .int .i64 Y, .slice A n c, .int .i64 X', .int .i64 Y', .slice A' n' c'] 26) := ⟨_, rfl⟩
  have hb1 : Below w.heap.size w W1 := by rw [hW1]; exact (Below.refl _ _).alloc (Nat.le_refl _) _
  rw [← hW1] at D0
  have HW1 := Lib.hid hW1
  obtain ⟨l0, a0, a1, a2, a3, a4, a5⟩ := id D0
  clear hW1
  have C1 := Lib.hid (szCutD_ok X Y A n c 1048576 W1 (by omega) (by omega))
  have z1 : ¬ (1048576 : Int) - (n : Int) < 0 := by omega
  have z2 : ¬ (1048576 : Int) - (n : Int) - (n' : Int) < 0 := by omega
  go_enter Try.func6, Try.ntmps6
  go_upto_region 1 with fail
  rw [← HW1.out]
  go_wp2_with fail
  (with_reducible refine C1.out.mono ?_)
  rintro e w3 ⟨rfl, hb3⟩
  have D3 := D0.next hb3
  have hb13 := hb1.trans (hb3.mono hb1.size)
  have C2 := Lib.hid (szCutD_ok X' Y' A' n' c' (1048576 - n) w3 (by omega) (by omega))
  clear l0 a0 a1 a2 a3 a4 a5 C1
  obtain ⟨l0, a0, a1, a2, a3, a4, a5⟩ := id D3
  go_wp2_with fail
  (with_reducible refine C2.out.mono ?_)
  rintro e w4 ⟨rfl, hb4⟩
  go_wp2_with fail
  go_ret
  exact ⟨rfl, hb13.trans (hb4.mono hb13.size)⟩
set_option maxRecDepth 100000 in
theorem szDesk_over (X Y : Int) (A : Option Addr) (n c : Nat) (X' Y' : Int) (A' : Option Addr) (n' c' : Nat) (w : World) (h : 1048576 < n + n') (hn : n ≤ 9223372036854775807) (hn' : n' ≤ 9223372036854775807) :
    Calls Try.prog 6 #[.agg #[.int .i64 X, .int .i64 Y, .slice A n c, .int .i64 X', .int .i64 Y', .slice A' n' c'], .int .i64 1048576] w fun e w' => e = .returned (.int .i64 (-1)) ∧ Below w.heap.size w w' := by
  have D0 := Dx.start w X Y A n c X' Y' A' n' c' 26
  obtain ⟨W1, hW1⟩ : ∃ W1, W1 = w.alloc (.cells #[.int .i64 X, .int .i64 Y, .slice A n c, .int .i64 X', .int .i64 Y', .slice A' n' c'] 26) := ⟨_, rfl⟩
  have hb1 : Below w.heap.size w W1 := by rw [hW1]; exact (Below.refl _ _).alloc (Nat.le_refl _) _
  rw [← hW1] at D0
  have HW1 := Lib.hid hW1
  obtain ⟨l0, a0, a1, a2, a3, a4, a5⟩ := id D0
  clear hW1
  by_cases hf : n ≤ 1048576
  · have C1 := Lib.hid (szCutD_ok X Y A n c 1048576 W1 (by omega) (by omega))
    have z1 : ¬ (1048576 : Int) - (n : Int) < 0 := by omega
    go_enter Try.func6, Try.ntmps6
    go_upto_region 1 with fail
    rw [← HW1.out]
    go_wp2_with fail
    (with_reducible refine C1.out.mono ?_)
    rintro e w3 ⟨rfl, hb3⟩
    have D3 := D0.next hb3
    have hb13 := hb1.trans (hb3.mono hb1.size)
    have C2 := Lib.hid (szCutD_over X' Y' A' n' c' (1048576 - n) w3 (by omega) (by omega) (by omega) hn')
    clear l0 a0 a1 a2 a3 a4 a5 C1
    obtain ⟨l0, a0, a1, a2, a3, a4, a5⟩ := id D3
    go_wp2_with fail
    (with_reducible refine C2.out.mono ?_)
    rintro e w4 ⟨rfl, hb4⟩
    go_wp2_with fail
    go_ret
    exact ⟨rfl, hb13.trans (hb4.mono hb13.size)⟩
  · have C1 := Lib.hid (szCutD_over X Y A n c 1048576 W1 (by omega) (by omega) (by omega) hn)
    go_enter Try.func6, Try.ntmps6
    go_upto_region 1 with fail
    rw [← HW1.out]
    go_wp2_with fail
    (with_reducible refine C1.out.mono ?_)
    rintro e w3 ⟨rfl, hb3⟩
    go_wp2_with fail
    go_ret
    exact ⟨rfl, hb1.trans (hb3.mono hb1.size)⟩
def OwnDk (w w' : World) (X Y : Int) (L : List Sq) (X' Y' : Int) (M : List Sq) (e : Ending) : Prop := ∃ g h, e = .returned (.agg #[.int .i64 X, .int .i64 Y, .slice (some ⟨g, 0, none⟩) L.length L.length, .int .i64 X', .int .i64 Y', .slice (some ⟨h, 0, none⟩) M.length M.length]) ∧ Below w.heap.size w w' ∧ w'.ownsRow w.heap.size 60 3 (.slice (some ⟨g, 0, none⟩) L.length L.length) L.length (flat L) ∧ w'.ownsRow w.heap.size 60 3 (.slice (some ⟨h, 0, none⟩) M.length M.length) M.length (flat M)
theorem Dx.other {B : Nat} {w : World} {X Y : Int} {A : Option Addr} {n c : Nat} {X' Y' : Int} {A' : Option Addr} {n' c' : Nat} (h : Dx B w X Y A n c X' Y' A' n' c') {b o : Nat} (hne : b ≠ B) (v : Value) : Dx B (w.setCell ⟨b, o, none⟩ v) X Y A n c X' Y' A' n' c' :=
  ⟨by simpa using h.lt, (World.cell?_setCell_other _ _ _ _ (fun e => hne (by rw [Addr.mk.injEq] at e; exact e.1))).trans h.c0, (World.cell?_setCell_other _ _ _ _ (fun e => hne (by rw [Addr.mk.injEq] at e; exact e.1))).trans h.c1, (World.cell?_setCell_other _ _ _ _ (fun e => hne (by rw [Addr.mk.injEq] at e; exact e.1))).trans h.c2,
    (World.cell?_setCell_other _ _ _ _ (fun e => hne (by rw [Addr.mk.injEq] at e; exact e.1))).trans h.c3, (World.cell?_setCell_other _ _ _ _ (fun e => hne (by rw [Addr.mk.injEq] at e; exact e.1))).trans h.c4, (World.cell?_setCell_other _ _ _ _ (fun e => hne (by rw [Addr.mk.injEq] at e; exact e.1))).trans h.c5⟩
theorem Dx.setLo {B : Nat} {w : World} {X Y : Int} {A : Option Addr} {n c : Nat} {X' Y' : Int} {A' : Option Addr} {n' c' : Nat} (h : Dx B w X Y A n c X' Y' A' n' c') (U V : Int) (S : Option Addr) (u d : Nat) :
    Dx B (((w.setCell ⟨B, 0, none⟩ (.int .i64 U)).setCell ⟨B, 1, none⟩ (.int .i64 V)).setCell ⟨B, 2, none⟩ (.slice S u d)) U V S u d X' Y' A' n' c' := by
  obtain ⟨l, a0, a1, a2, a3, a4, a5⟩ := h
  refine ⟨by simpa using l, ?_, ?_, ?_, ?_, ?_, ?_⟩ <;> simp [go_sem, a0, a1, a2, a3, a4, a5]
theorem own_set6' {w : World} {b base : Nat} {e : TypeId} {size n : Nat} {v : Value} {xs : List Value} (h : w.ownsRow base e size v n xs) (hb : b < base) (v0 v1 v2 v3 v4 v5 : Value) :
    ((((((w.setCell ⟨b, 0, none⟩ v0).setCell ⟨b, 1, none⟩ v1).setCell ⟨b, 2, none⟩ v2).setCell ⟨b, 3, none⟩ v3).setCell ⟨b, 4, none⟩ v4).setCell ⟨b, 5, none⟩ v5).ownsRow base e size v n xs :=
  ownsRow_setCell_below (ownsRow_setCell_below (ownsRow_setCell_below (ownsRow_setCell_below (ownsRow_setCell_below (ownsRow_setCell_below h (show b < base from hb) _) (show b < base from hb) _) (show b < base from hb) _) (show b < base from hb) _) (show b < base from hb) _) (show b < base from hb) _
theorem Dx.set6' {B : Nat} {w : World} {X Y : Int} {A : Option Addr} {n c : Nat} {X' Y' : Int} {A' : Option Addr} {n' c' : Nat} (h : Dx B w X Y A n c X' Y' A' n' c') (U V : Int) (S : Option Addr) (u d : Nat) (U' V' : Int) (S' : Option Addr) (u' d' : Nat) :
    Dx B ((((((w.setCell ⟨B, 0, none⟩ (.int .i64 U)).setCell ⟨B, 1, none⟩ (.int .i64 V)).setCell ⟨B, 2, none⟩ (.slice S u d)).setCell ⟨B, 3, none⟩ (.int .i64 U')).setCell ⟨B, 4, none⟩ (.int .i64 V')).setCell ⟨B, 5, none⟩ (.slice S' u' d')) U V S u d U' V' S' u' d' := by
  obtain ⟨l, a0, a1, a2, a3, a4, a5⟩ := h
  refine ⟨by simpa using l, ?_, ?_, ?_, ?_, ?_, ?_⟩ <;> simp [go_sem, a0, a1, a2, a3, a4, a5]
set_option maxRecDepth 100000 in
set_option maxHeartbeats 4000000 in
theorem toDesk_any (X Y : Int) (A : Option Addr) (n c : Nat) (X' Y' : Int) (A' : Option Addr) (n' c' : Nat) (L M : List Sq) (w : World) (hl : L.length = n) (hn : n ≤ c) (hr : n ≤ 1048576) (hL : SqsAt w w.heap.size A L) (hm : M.length = n') (hn' : n' ≤ c') (hr' : n' ≤ 1048576) (hM : SqsAt w w.heap.size A' M) :
    Calls Try.prog 8 #[.agg #[.int .i64 X, .int .i64 Y, .slice A n c, .int .i64 X', .int .i64 Y', .slice A' n' c']] w fun e w' => OwnDk w w' X Y L X' Y' M e := by
  subst hl
  subst hm
  obtain ⟨B, hB⟩ : ∃ B, B = w.heap.size := ⟨_, rfl⟩
  obtain ⟨w3, hw3⟩ : ∃ w3, w3 = ((w.alloc (.cells #[.int .i64 X, .int .i64 Y, .slice A L.length c, .int .i64 X', .int .i64 Y', .slice A' M.length c'] 26)).alloc (.cells #[.int .i64 0, .int .i64 0, .slice none 0 0, .int .i64 0, .int .i64 0, .slice none 0 0] 33)).alloc (.cells #[.int .i64 0, .int .i64 0, .slice none 0 0, .int .i64 0, .int .i64 0, .slice none 0 0] 33) := ⟨_, rfl⟩
  obtain ⟨U1, hU1⟩ : ∃ U1, U1 = w.alloc (.cells #[.int .i64 X, .int .i64 Y, .slice A L.length c, .int .i64 X', .int .i64 Y', .slice A' M.length c'] 26) := ⟨_, rfl⟩
  obtain ⟨U2, hU2⟩ : ∃ U2, U2 = U1.alloc (.cells #[.int .i64 0, .int .i64 0, .slice none 0 0, .int .i64 0, .int .i64 0, .slice none 0 0] 33) := ⟨_, rfl⟩
  have s1 : U1.heap.size = B + 1 := by rw [hU1, hB]; simp
  have s2 : U2.heap.size = B + 1 + 1 := by rw [hU2, ← s1]; simp
  have hw3' : w3 = U2.alloc (.cells #[.int .i64 0, .int .i64 0, .slice none 0 0, .int .i64 0, .int .i64 0, .slice none 0 0] 33) := by rw [hw3, hU2, hU1]
  have hz3 : w3.heap.size = B + 1 + 1 + 1 := by rw [hw3', ← s2]; simp
  have b1 : Below w.heap.size w U1 := by rw [hU1]; exact (Below.refl _ _).alloc (Nat.le_refl _) _
  have b2 : Below U1.heap.size U1 U2 := by rw [hU2]; exact (Below.refl _ _).alloc (Nat.le_refl _) _
  have b3 : Below U2.heap.size U2 w3 := by rw [hw3']; exact (Below.refl _ _).alloc (Nat.le_refl _) _
  have hb3 : Below w.heap.size w w3 := (b1.trans (b2.mono b1.size)).trans (b3.mono (b1.trans (b2.mono b1.size)).size)
  have Da0 : Dx B U1 X Y A L.length c X' Y' A' M.length c' := by rw [hU1, hB]; exact Dx.start _ _ _ _ _ _ _ _ _ _ _ _
  have Da := (Da0.next b2).next b3
  have Dr0 : Dx (B + 1) U2 0 0 none 0 0 0 0 none 0 0 := by rw [hU2, ← s1]; exact Dx.start _ _ _ _ _ _ _ _ _ _ _ _
  have Dr := Dr0.next b3
  have Do : Dx (B + 1 + 1) w3 0 0 none 0 0 0 0 none 0 0 := by rw [hw3', ← s2]; exact Dx.start _ _ _ _ _ _ _ _ _ _ _ _
  have fr : ∀ o, w3.frozen? ⟨B + 1, o, none⟩ = false := fun o => (b3.frozen (p := ⟨B + 1, o, none⟩) Dr0.lt).trans (by rw [hU2, ← s1]; simp)
  have fo : ∀ o, w3.frozen? ⟨B + 1 + 1, o, none⟩ = false := fun o => by rw [hw3', ← s2]; simp
  clear hU1 hU2 hw3' b1 b2 b3 Da0 Dr0 s1 s2
  have hL3 := (hL.below hb3).mono hb3.size
  have C1 := Lib.hid (toCut_any X Y A L.length c L w3 rfl hn hr hL3)
  have HW3 := Lib.hid hw3
  have HBs := Lib.hid hB
  have hBle : w.heap.size ≤ B := by omega
  go_enter Try.func8, Try.ntmps8
  go_upto_region 2 with fail
  rw [← HW3.out, ← HBs.out]
  obtain ⟨_, a0, a1, a2, a3, a4, a5⟩ := id Da
  clear hw3 hB
  go_wp2_with fail
  (with_reducible refine C1.out.mono ?_)
  rintro e w4 ⟨g, rfl, hb4, ho4⟩
  have Da := Da.next hb4
  have Dr4 := Dr.next hb4
  have Do4 := Do.next hb4
  have fr4 : ∀ o, w4.frozen? ⟨B + 1, o, none⟩ = false := fun o => (hb4.frozen (p := ⟨B + 1, o, none⟩) Dr.lt).trans (fr o)
  have fo4 : ∀ o, w4.frozen? ⟨B + 1 + 1, o, none⟩ = false := fun o => (hb4.frozen (p := ⟨B + 1 + 1, o, none⟩) Do.lt).trans (fo o)
  clear a0 a1 a2 a3 a4 a5 C1 fr fo
  obtain ⟨_, a0, a1, a2, a3, a4, a5⟩ := id Da
  obtain ⟨_, o0, o1, o2, o3, o4, o5⟩ := id Do4
  have f0 := fo4 0
  have f1 := fo4 1
  have f2 := fo4 2
  go_wp2_with fail
  obtain ⟨w5, hw5⟩ : ∃ w5, w5 = ((w4.setCell ⟨B + 1 + 1, 0, none⟩ (.int .i64 X)).setCell ⟨B + 1 + 1, 1, none⟩ (.int .i64 Y)).setCell ⟨B + 1 + 1, 2, none⟩ (.slice (some ⟨g, 0, none⟩) L.length L.length) := ⟨_, rfl⟩
  have Da5 : Dx B w5 X Y A L.length c X' Y' A' M.length c' := by rw [hw5]; exact ((Da.other (by omega) _).other (by omega) _).other (by omega) _
  have Dr5 : Dx (B + 1) w5 0 0 none 0 0 0 0 none 0 0 := by rw [hw5]; exact ((Dr4.other (by omega) _).other (by omega) _).other (by omega) _
  have Do5 : Dx (B + 1 + 1) w5 X Y (some ⟨g, 0, none⟩) L.length L.length 0 0 none 0 0 := by rw [hw5]; exact Do4.setLo _ _ _ _ _
  have hb45 : Below w3.heap.size w3 w4 := hb4
  have B4 : Below w.heap.size w w4 := hb3.trans (hb4.mono hb3.size)
  have B5 : Below w.heap.size w w5 := by rw [hw5]; exact ((B4.setCell (p := ⟨B + 1 + 1, 0, none⟩) (show w.heap.size ≤ B + 1 + 1 by omega) _).setCell (p := ⟨B + 1 + 1, 1, none⟩) (show w.heap.size ≤ B + 1 + 1 by omega) _).setCell (p := ⟨B + 1 + 1, 2, none⟩) (show w.heap.size ≤ B + 1 + 1 by omega) _
  have ho5 : w5.ownsRow w3.heap.size 60 3 (.slice (some ⟨g, 0, none⟩) L.length L.length) L.length (flat L) := by rw [hw5]; exact ownsRow_setCell_below (ownsRow_setCell_below (ownsRow_setCell_below ho4 (show B + 1 + 1 < w3.heap.size by omega) _) (show B + 1 + 1 < w3.heap.size by omega) _) (show B + 1 + 1 < w3.heap.size by omega) _
  have fr5 : ∀ o, w5.frozen? ⟨B + 1, o, none⟩ = false := fun o => by rw [hw5]; simp only [World.frozen?_setCell]; exact fr4 o
  have fo5 : ∀ o, w5.frozen? ⟨B + 1 + 1, o, none⟩ = false := fun o => by rw [hw5]; simp only [World.frozen?_setCell]; exact fo4 o
  have hM5 := (hM.below B5).mono B5.size
  have C2 := Lib.hid (toCut_any X' Y' A' M.length c' M w5 rfl hn' hr' hM5)
  rw [← hw5]
  clear hw5 a0 a1 a2 a3 a4 a5 o0 o1 o2 o3 o4 o5 f0 f1 f2 Da Dr4 Do4 fr4 fo4 ho4 hb4 hb45 hL hM hL3 hM5
  (with_reducible refine C2.out.mono ?_)
  rintro e w6 ⟨h, rfl, hb6, ho6⟩
  have Dr6 := Dr5.next hb6
  have Do6 := Do5.next hb6
  have ho56 := own_keep ho5 hb6
  have B6 := B5.trans (hb6.mono B5.size)
  obtain ⟨_, r0, r1, r2, r3, r4, r5⟩ := id Dr6
  obtain ⟨_, o0, o1, o2, o3, o4, o5⟩ := id Do6
  have f3 := (hb6.frozen (p := ⟨B + 1 + 1, 3, none⟩) Do5.lt).trans (fo5 3)
  have f4 := (hb6.frozen (p := ⟨B + 1 + 1, 4, none⟩) Do5.lt).trans (fo5 4)
  have f5 := (hb6.frozen (p := ⟨B + 1 + 1, 5, none⟩) Do5.lt).trans (fo5 5)
  have q0 := (hb6.frozen (p := ⟨B + 1, 0, none⟩) Dr5.lt).trans (fr5 0)
  have q1 := (hb6.frozen (p := ⟨B + 1, 1, none⟩) Dr5.lt).trans (fr5 1)
  have q2 := (hb6.frozen (p := ⟨B + 1, 2, none⟩) Dr5.lt).trans (fr5 2)
  have q3 := (hb6.frozen (p := ⟨B + 1, 3, none⟩) Dr5.lt).trans (fr5 3)
  have q4 := (hb6.frozen (p := ⟨B + 1, 4, none⟩) Dr5.lt).trans (fr5 4)
  have q5 := (hb6.frozen (p := ⟨B + 1, 5, none⟩) Dr5.lt).trans (fr5 5)
  have l5 := Do5.lt
  have HO5 := Lib.hid ho56
  have HO6 := Lib.hid ho6
  clear C2 ho5 ho6 ho56 fr5 fo5 Dr5 Da5 hb6
  go_wp2_with fail
  obtain ⟨_, e0, e1, e2, e3, e4, e5⟩ := Dx.set6' (((Dr6.other (b := B + 1 + 1) (o := 3) (by omega) (.int .i64 X')).other (b := B + 1 + 1) (o := 4) (by omega) (.int .i64 Y')).other (b := B + 1 + 1) (o := 5) (by omega) (.slice (some ⟨h, 0, none⟩) M.length M.length)) X Y (some ⟨g, 0, none⟩) L.length L.length X' Y' (some ⟨h, 0, none⟩) M.length M.length
  refine bodyPost_ret (v := .agg #[.int .i64 X, .int .i64 Y, .slice (some ⟨g, 0, none⟩) L.length L.length, .int .i64 X', .int .i64 Y', .slice (some ⟨h, 0, none⟩) M.length M.length]) (by simp [results, Try.results8, go_sem, e0, e1, e2, e3, e4, e5]) rfl ?_
  have low : ∀ (u : World) (bs : Nat) (v : Value) (k : Nat) (xs : List Value), B + 1 + 1 < bs → u.ownsRow bs 60 3 v k xs → (((u.setCell ⟨B + 1 + 1, 3, none⟩ (.int .i64 X')).setCell ⟨B + 1 + 1, 4, none⟩ (.int .i64 Y')).setCell ⟨B + 1 + 1, 5, none⟩ (.slice (some ⟨h, 0, none⟩) M.length M.length)).ownsRow bs 60 3 v k xs := fun u bs v k xs hlt ho =>
    ownsRow_setCell_below (ownsRow_setCell_below (ownsRow_setCell_below ho (show B + 1 + 1 < bs from hlt) _) (show B + 1 + 1 < bs from hlt) _) (show B + 1 + 1 < bs from hlt) _
  refine ⟨g, h, rfl, ?_, own_base (own_set6' (low _ _ _ _ _ (by omega) HO5.out) (by omega) _ _ _ _ _ _) (by omega), own_base (own_set6' (low _ _ _ _ _ (by omega) HO6.out) (by omega) _ _ _ _ _ _) (by omega)⟩
  have B7 := ((B6.setCell (p := ⟨B + 1 + 1, 3, none⟩) (show w.heap.size ≤ B + 1 + 1 by omega) (.int .i64 X')).setCell (p := ⟨B + 1 + 1, 4, none⟩) (show w.heap.size ≤ B + 1 + 1 by omega) (.int .i64 Y')).setCell (p := ⟨B + 1 + 1, 5, none⟩) (show w.heap.size ≤ B + 1 + 1 by omega) (.slice (some ⟨h, 0, none⟩) M.length M.length)
  exact (((((B7.setCell (p := ⟨B + 1, 0, none⟩) (show w.heap.size ≤ B + 1 by omega) _).setCell (p := ⟨B + 1, 1, none⟩) (show w.heap.size ≤ B + 1 by omega) _).setCell (p := ⟨B + 1, 2, none⟩) (show w.heap.size ≤ B + 1 by omega) _).setCell (p := ⟨B + 1, 3, none⟩) (show w.heap.size ≤ B + 1 by omega) _).setCell (p := ⟨B + 1, 4, none⟩) (show w.heap.size ≤ B + 1 by omega) _).setCell (p := ⟨B + 1, 5, none⟩) (show w.heap.size ≤ B + 1 by omega) _
end Go.Proofs.Ytdgmllgmfbhceaa
