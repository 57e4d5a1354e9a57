/- Desks as the laws have them: comparing, marking, reading marks. -/
import Derived.Test.YtbkfenhiaedlgaaDoorGen
import Derived.Test.YtbkfenhiaedlgaaDoorMark
import Derived.Deep.DeepCutAuto
set_option linter.all false
namespace Go.Proofs.YtbkfenhiaedlgaaDoor
open Go.RowKit

/-- A desk's six cells. -/
structure Dx (B : Nat) (w : World) (X Y : Int) (A : Option Addr) (n c : Nat) (X' Y' : Int) (A' : Option Addr) (n' c' : Nat) : Prop where
  lt : B < w.heap.size
  c0 : w.cell? ⟨B, 0, none⟩ = some (.int .i64 X)
  c1 : w.cell? ⟨B, 1, none⟩ = some (.int .i64 Y)
  c2 : w.cell? ⟨B, 2, none⟩ = some (.slice A n c)
  c3 : w.cell? ⟨B, 3, none⟩ = some (.int .i64 X')
  c4 : w.cell? ⟨B, 4, none⟩ = some (.int .i64 Y')
  c5 : w.cell? ⟨B, 5, none⟩ = some (.slice A' n' c')
section
variable {B : Nat} {w w' : World} {X Y : Int} {A : Option Addr} {n c : Nat} {X' Y' : Int} {A' : Option Addr} {n' c' : Nat}
theorem Dx.next (h : Dx B w X Y A n c X' Y' A' n' c') (hb : Below w.heap.size w w') : Dx B w' X Y A n c X' Y' A' n' c' :=
  ⟨Nat.lt_of_lt_of_le h.lt hb.size, (hb.cell (p := ⟨B, 0, none⟩) h.lt).trans h.c0, (hb.cell (p := ⟨B, 1, none⟩) h.lt).trans h.c1, (hb.cell (p := ⟨B, 2, none⟩) h.lt).trans h.c2, (hb.cell (p := ⟨B, 3, none⟩) h.lt).trans h.c3, (hb.cell (p := ⟨B, 4, none⟩) h.lt).trans h.c4, (hb.cell (p := ⟨B, 5, none⟩) h.lt).trans h.c5⟩
theorem Dx.far {row : Option Nat} (h : Dx B w X Y A n c X' Y' A' n' c') (hg : w.grownBy w' row) (hne : row ≠ some B) : Dx B w' X Y A n c X' Y' A' n' c' :=
  ⟨Nat.lt_of_lt_of_le h.lt hg.size, hg.cell h.c0 (fun e => hne e.symm), hg.cell h.c1 (fun e => hne e.symm), hg.cell h.c2 (fun e => hne e.symm), hg.cell h.c3 (fun e => hne e.symm), hg.cell h.c4 (fun e => hne e.symm), hg.cell h.c5 (fun e => hne e.symm)⟩
end
theorem Dx.start (w : World) (X Y : Int) (A : Option Addr) (n c : Nat) (X' Y' : Int) (A' : Option Addr) (n' c' : Nat) (t : TypeId) : Dx w.heap.size (w.alloc (.cells #[.int .i64 X, .int .i64 Y, .slice A n c, .int .i64 X', .int .i64 Y', .slice A' n' c'] t)) X Y A n c X' Y' A' n' c' :=
  ⟨by simp, by simp, by simp, by simp, by simp, by simp, by simp⟩
set_option maxRecDepth 100000 in
set_option maxHeartbeats 2000000 in
theorem eqDesk_same (X Y : Int) (A B : Option Addr) (n c cB : Nat) (L : List Sq) (X' Y' : Int) (A' B' : Option Addr) (n' c' cB' : Nat) (M : List Sq) (w : World) (hl : L.length = n) (hn : n ≤ 1048576) (hc : n ≤ c) (hcB : n ≤ cB) (hL : SqsAt w w.heap.size A L) (hLB : SqsAt w w.heap.size B L)
    (hm : M.length = n') (hn' : n' ≤ 1048576) (hc' : n' ≤ c') (hcB' : n' ≤ cB') (hM : SqsAt w w.heap.size A' M) (hMB : SqsAt w w.heap.size B' M) :
    Calls Tryd.prog 45 #[.agg #[.int .i64 X, .int .i64 Y, .slice A n c, .int .i64 X', .int .i64 Y', .slice A' n' c'], .agg #[.int .i64 X, .int .i64 Y, .slice B n cB, .int .i64 X', .int .i64 Y', .slice B' n' cB']] w fun e w' => e = .returned (.bool true) ∧ Below w.heap.size w w' := by
  have D0 := Dx.start w X Y A n c X' Y' A' n' c' 73
  obtain ⟨W1, hW1⟩ : ∃ W1, W1 = w.alloc (.cells #[.int .i64 X, .int .i64 Y, .slice A n c, .int .i64 X', .int .i64 Y', .slice A' n' c'] 73) := ⟨_, rfl⟩
  have hb1 : Below w.heap.size w W1 := by rw [hW1]; exact (Below.refl _ _).alloc (Nat.le_refl _) _
  have e1 : W1.heap.size = w.heap.size + 1 := by rw [hW1]; simp
  rw [← hW1] at D0
  have D1 := Dx.start W1 X Y B n cB X' Y' B' n' cB' 73
  obtain ⟨W2, hW2⟩ : ∃ W2, W2 = W1.alloc (.cells #[.int .i64 X, .int .i64 Y, .slice B n cB, .int .i64 X', .int .i64 Y', .slice B' n' cB'] 73) := ⟨_, rfl⟩
  have hb2 : Below W1.heap.size W1 W2 := by rw [hW2]; exact (Below.refl _ _).alloc (Nat.le_refl _) _
  rw [← hW2] at D1
  have D0 := D0.next hb2
  have hb12 : Below w.heap.size w W2 := hb1.trans (hb2.mono hb1.size)
  rw [e1] at D1
  have HW2 := Lib.hid hW2
  have HW1 := Lib.hid hW1
  have C1 := Lib.hid (eqCut_same X Y A B n c cB L W2 hl hn hc hcB ((hL.below hb12).mono hb12.size) ((hLB.below hb12).mono hb12.size))
  obtain ⟨l0, a0, a1, a2, a3, a4, a5⟩ := id D0
  obtain ⟨l1, b0, b1, b2, b3, b4, b5⟩ := id D1
  clear hW2 hW1 e1 hb1 hb2
  go_enter Tryd.func45, Tryd.ntmps45
  go_upto_region 1 with fail
  rw [← HW1.out, ← HW2.out]
  go_wp2_with fail
  (with_reducible refine C1.out.mono ?_)
  rintro e w3 ⟨rfl, hb3⟩
  have D0 := D0.next hb3
  have D1 := D1.next hb3
  have hb13 := hb12.trans (hb3.mono hb12.size)
  have C2 := Lib.hid (eqCut_same X' Y' A' B' n' c' cB' M w3 hm hn' hc' hcB' ((hM.below hb13).mono hb13.size) ((hMB.below hb13).mono hb13.size))
  clear l0 a0 a1 a2 a3 a4 a5 l1 b0 b1 b2 b3 b4 b5 C1
  obtain ⟨l0, a0, a1, a2, a3, a4, a5⟩ := id D0
  obtain ⟨l1, b0, b1, b2, b3, b4, b5⟩ := id D1
  go_wp2_with fail
  (with_reducible refine C2.out.mono ?_)
  rintro e w4 ⟨rfl, hb4⟩
  go_wp2_with fail
  go_ret
  exact ⟨rfl, hb13.trans (hb4.mono hb13.size)⟩
set_option maxRecDepth 100000 in
set_option maxHeartbeats 2000000 in
theorem markDesk_any (X Y : Int) (A : Option Addr) (n c base : Nat) (xs : List Value) (X' Y' : Int) (A' : Option Addr) (n' c' : Nat) (ys : List Value) (k0 : Int) (w : World) (hn : n ≤ 1048576) (hn' : n' ≤ 1048576) (h0 : 0 ≤ k0) (h1 : k0 ≤ 1000000) (hbase : base ≤ w.heap.size)
    (ho : w.ownsRow base 85 3 (.slice A n c) n xs) (ho' : w.ownsRow base 85 3 (.slice A' n' c') n' ys) (hd : ∀ k, (Value.slice A n c).ownBlock = some k → (Value.slice A' n' c').ownBlock ≠ some k) :
    Calls Tryd.prog 46 #[.agg #[.int .i64 X, .int .i64 Y, .slice A n c, .int .i64 X', .int .i64 Y', .slice A' n' c'], .int .i64 k0] w fun e w' => e = .returned (.int .i64 (k0 + 3 * n + 3 * n')) ∧ w'.ownsRow base 85 3 (.slice A n c) n (flat (upS k0 n)) ∧ w'.ownsRow base 85 3 (.slice A' n' c') n' (flat (upS (k0 + 3 * n) n')) ∧ Below base w w' ∧
      ∀ B U V S u d U' V' S' u' d', Dx B w U V S u d U' V' S' u' d' → (Value.slice A n c).ownBlock ≠ some B → (Value.slice A' n' c').ownBlock ≠ some B → Dx B w' U V S u d U' V' S' u' d' := by
  have D0 := Dx.start w X Y A n c X' Y' A' n' c' 73
  obtain ⟨W1, hW1⟩ : ∃ W1, W1 = w.alloc (.cells #[.int .i64 X, .int .i64 Y, .slice A n c, .int .i64 X', .int .i64 Y', .slice A' n' c'] 73) := ⟨_, rfl⟩
  have hb1 : Below w.heap.size w W1 := by rw [hW1]; exact (Below.refl _ _).alloc (Nat.le_refl _) _
  rw [← hW1] at D0
  have HW1 := Lib.hid hW1
  have hlA := Lib.hid (fun k hk => ho.lt k hk)
  have hlA' := Lib.hid (fun k hk => ho'.lt k hk)
  have o1 := own_keep ho hb1
  have o1' := own_keep ho' hb1
  have C1 := Lib.hid (markCut_any X Y A n c base xs k0 W1 hn h0 (by omega) o1)
  have HD := Lib.hid hd
  obtain ⟨l0, a0, a1, a2, a3, a4, a5⟩ := id D0
  clear hW1 hd ho ho'
  go_enter Tryd.func46, Tryd.ntmps46
  go_upto_region 1 with fail
  rw [← HW1.out]
  go_wp2_with fail
  (with_reducible refine C1.out.mono ?_)
  rintro e w3 ⟨rfl, o3, g3⟩
  have D3 := D0.far g3 (fun e => by have := hlA.out _ e; omega)
  have o3' := own_far o1' g3 (fun k hk e => HD.out k e hk)
  have C2 := Lib.hid (markCut_any X' Y' A' n' c' base ys (k0 + 3 * n) w3 hn' (by omega) (by omega) o3')
  clear l0 a0 a1 a2 a3 a4 a5 C1 o3'
  obtain ⟨l0, a0, a1, a2, a3, a4, a5⟩ := id D3
  go_wp2_with fail
  (with_reducible refine C2.out.mono ?_)
  rintro e w4 ⟨rfl, o4, g4⟩
  go_wp2_with fail
  go_ret
  refine ⟨rfl, own_far o3 g4 (fun k hk e => HD.out k hk e), o4, ((hb1.mono hbase).grown g3 (Nat.le_trans hbase hb1.size) (fun k hk => (hlA.out k hk).1)).grown g4 (Nat.le_trans (Nat.le_trans hbase hb1.size) g3.size) (fun k hk => (hlA'.out k hk).1), fun B U V S u d U' V' S' u' d' hD q q' => ((hD.next hb1).far g3 q).far g4 q'⟩
set_option maxRecDepth 100000 in
set_option maxHeartbeats 2000000 in
theorem heldDesk_any (X Y : Int) (A : Option Addr) (n c : Nat) (X' Y' : Int) (A' : Option Addr) (n' c' : Nat) (k0 : Int) (w : World) (hn : n ≤ 1048576) (hn' : n' ≤ 1048576) (h0 : 0 ≤ k0) (h1 : k0 ≤ 1000000) (hL : SqsAt w w.heap.size A (upS k0 n)) (hM : SqsAt w w.heap.size A' (upS (k0 + 3 * n) n')) :
    Calls Tryd.prog 47 #[.agg #[.int .i64 X, .int .i64 Y, .slice A n c, .int .i64 X', .int .i64 Y', .slice A' n' c'], .int .i64 k0] w fun e w' => e = .returned (.int .i64 (k0 + 3 * n + 3 * n')) ∧ Below w.heap.size w w' := by
  have D0 := Dx.start w X Y A n c X' Y' A' n' c' 73
  obtain ⟨W1, hW1⟩ : ∃ W1, W1 = w.alloc (.cells #[.int .i64 X, .int .i64 Y, .slice A n c, .int .i64 X', .int .i64 Y', .slice A' n' c'] 73) := ⟨_, rfl⟩
  have hb1 : Below w.heap.size w W1 := by rw [hW1]; exact (Below.refl _ _).alloc (Nat.le_refl _) _
  rw [← hW1] at D0
  have HW1 := Lib.hid hW1
  have C1 := Lib.hid (heldCut_any X Y A n c k0 W1 hn h0 (by omega) ((hL.below hb1).mono hb1.size))
  obtain ⟨l0, a0, a1, a2, a3, a4, a5⟩ := id D0
  have z1 : ¬ k0 + 3 * (n : Int) < 0 := by omega
  have z2 : ¬ k0 + 3 * (n : Int) + 3 * (n' : Int) < 0 := by omega
  clear hW1
  go_enter Tryd.func47, Tryd.ntmps47
  go_upto_region 1 with fail
  rw [← HW1.out]
  go_wp2_with fail
  (with_reducible refine C1.out.mono ?_)
  rintro e w3 ⟨rfl, hb3⟩
  have D3 := D0.next hb3
  have hb13 := hb1.trans (hb3.mono hb1.size)
  have C2 := Lib.hid (heldCut_any X' Y' A' n' c' (k0 + 3 * n) w3 hn' (by omega) (by omega) ((hM.below hb13).mono hb13.size))
  clear l0 a0 a1 a2 a3 a4 a5 C1
  obtain ⟨l0, a0, a1, a2, a3, a4, a5⟩ := id D3
  go_wp2_with fail
  (with_reducible refine C2.out.mono ?_)
  rintro e w4 ⟨rfl, hb4⟩
  go_wp2_with fail
  go_ret
  exact ⟨rfl, hb13.trans (hb4.mono hb13.size)⟩
end Go.Proofs.YtbkfenhiaedlgaaDoor
