/- Desks as the laws have them: comparing, marking, reading marks. -/
import Derived.Test.YtdgmllgmfbhceaaGen
import Derived.Test.YtdgmllgmfbhceaaMark
import Derived.Deep.DeepCutAuto
set_option linter.all false
namespace Go.Proofs.Ytdgmllgmfbhceaa
open Go.RowKit

/-- A desk's six cells. -/
structure Dx (B : Nat) (w : World) (X Y : Int) (A : Option Addr) (n c : Nat) (X' Y' : Int) (A' : Option Addr) (n' c' : Nat) : Prop where
  lt : B < w.heap.size
  c0 : w.cell? ⟨B, 0, none⟩ = some (.int .i64 X)
  c1 : w.cell? ⟨B, 1, none⟩ = some (.int .i64 Y)
  c2 : w.cell? ⟨B, 2, none⟩ = some (.slice A n c)
  c3 : w.cell? ⟨B, 3, none⟩ = some (.int .i64 X')
  c4 : w.cell? ⟨B, 4, none⟩ = some (.int .i64 Y')
  c5 : w.cell? ⟨B, 5, none⟩ = some (.slice A' n' c')
section
variable {B : Nat} {w w' : World} {X Y : Int} {A : Option Addr} {n c : Nat} {X' Y' : Int} {A' : Option Addr} {n' c' : Nat}
theorem Dx.next (h : Dx B w X Y A n c X' Y' A' n' c') (hb : Below w.heap.size w w') : Dx B w' X Y A n c X' Y' A' n' c' :=
  ⟨Nat.lt_of_lt_of_le h.lt hb.size, (hb.cell (p := ⟨B, 0, none⟩) h.lt).trans h.c0, (hb.cell (p := ⟨B, 1, none⟩) h.lt).trans h.c1, (hb.cell (p := ⟨B, 2, none⟩) h.lt).trans h.c2, (hb.cell (p := ⟨B, 3, none⟩) h.lt).trans h.c3, (hb.cell (p := ⟨B, 4, none⟩) h.lt).trans h.c4, (hb.cell (p := ⟨B, 5, none⟩) h.lt).trans h.c5⟩
theorem Dx.far {row : Option Nat} (h : Dx B w X Y A n c X' Y' A' n' c') (hg : w.grownBy w' row) (hne : row ≠ some B) : Dx B w' X Y A n c X' Y' A' n' c' :=
  ⟨Nat.lt_of_lt_of_le h.lt hg.size, hg.cell h.c0 (fun e => hne e.symm), hg.cell h.c1 (fun e => hne e.symm), hg.cell h.c2 (fun e => hne e.symm), hg.cell h.c3 (fun e => hne e.symm), hg.cell h.c4 (fun e => hne e.symm), hg.cell h.c5 (fun e => hne e.symm)⟩
end
theorem Dx.start (w : World) (X Y : Int) (A : Option Addr) (n c : Nat) (X' Y' : Int) (A' : Option Addr) (n' c' : Nat) (t : TypeId) : Dx w.heap.size (w.alloc (.cells #[.int .i64 X, .int .i64 Y, .slice A n c, .int .i64 X', .int .i64 Y', .slice A' n' c'] t)) X Y A n c X' Y' A' n' c' :=
  ⟨by simp, by simp, by simp, by simp, by simp, by simp, by simp⟩
set_option maxRecDepth 100000 in
set_option maxHeartbeats 2000000 in
theorem eqDesk_same (X Y : Int) (A B : Option Addr) (n c cB : Nat) (L : List Sq) (X' Y' : Int) (A' B' : Option Addr) (n' c' cB' : Nat) (M : List Sq) (w : World) (hl : L.length = n) (hn : n ≤ 1048576) (hc : n ≤ c) (hcB : n ≤ cB) (hL : SqsAt w w.heap.size A L) (hLB : SqsAt w w.heap.size B L)
    (hm : M.length = n') (hn' : n' ≤ 1048576) (hc' : n' ≤ c') (hcB' : n' ≤ cB') (hM : SqsAt w w.heap.size A' M) (hMB : SqsAt w w.heap.size B' M) :
    Calls Try.prog 10 #[.agg #[.int .i64 X, .int .i64 Y, .slice A n c, .int .i64 X', .int .i64 Y', .slice A' n' c'], .agg #[.int .i64 X, .int .i64 Y, .slice B n cB, .int .i64 X', .int .i64 Y', .slice B' n' cB']] w fun e w' => e = .returned (.bool true) ∧ Below w.heap.size w w' := by
  have D0 := Dx.start w X Y A n c X' Y' A' n' c' 33
  obtain ⟨W1, hW1⟩ : ∃ W1, W1 = w.alloc (.cells #[.int .i64 X, .int .i64 Y, .slice A n c, .int .i64 X', .int .i64 Y', .slice A' n' c'] 33) := ⟨_, rfl⟩
  have hb1 : Below w.heap.size w W1 := by rw [hW1]; exact (Below.refl _ _).alloc (Nat.le_refl _) _
  have e1 : W1.heap.size = w.heap.size + 1 := by rw [hW1]; simp
  rw [← hW1] at D0
  have D1 := Dx.start W1 X Y B n cB X' Y' B' n' cB' 33
  obtain ⟨W2, hW2⟩ : ∃ W2, W2 = W1.alloc (.cells #[.int .i64 X, .int .i64 Y, .slice B n cB, .int .i64 X', .int .i64 Y', .slice B' n' cB'] 33) := ⟨_, rfl⟩
  have hb2 : Below W1.heap.size W1 W2 := by rw [hW2]; exact (Below.refl _ _).alloc (Nat.le_refl _) _
  rw [← hW2] at D1
  have D0 := D0.next hb2
  have hb12 : Below w.heap.size w W2 := hb1.trans (hb2.mono hb1.size)
  rw [e1] at D1
  have HW2 := Lib.hid hW2
  have HW1 := Lib.hid hW1
  have C1 := Lib.hid (eqCut_same X Y A B n c cB L W2 hl hn hc hcB ((hL.below hb12).mono hb12.size) ((hLB.below hb12).mono hb12.size))
  obtain ⟨l0, a0, a1, a2, a3, a4, a5⟩ := id D0
  obtain ⟨l1, b0, b1, b2, b3, b4, b5⟩ := id D1
  clear hW2 hW1 e1 hb1 hb2
  go_enter Try.func10, Try.ntmps10
  go_upto_region 1 with fail
  rw [← HW1.out, ← HW2.out]
  go_wp2_with fail
  (with_reducible refine C1.out.mono ?_)
  rintro e w3 ⟨rfl, hb3⟩
  have D0 := D0.next hb3
  have D1 := D1.next hb3
  have hb13 := hb12.trans (hb3.mono hb12.size)
  have C2 := Lib.hid (eqCut_same X' Y' A' B' n' c' cB' M w3 hm hn' hc' hcB' ((hM.below hb13).mono hb13.size) ((hMB.below hb13).mono hb13.size))
  clear l0 a0 a1 a2 a3 a4 a5 l1 b0 b1 b2 b3 b4 b5 C1
  obtain ⟨l0, a0, a1, a2, a3, a4, a5⟩ := id D0
  obtain ⟨l1, b0, b1, b2, b3, b4, b5⟩ := id D1
  go_wp2_with fail
  (with_reducible refine C2.out.mono ?_)
  rintro e w4 ⟨rfl, hb4⟩
  go_wp2_with fail
  go_ret
  exact ⟨rfl, hb13.trans (hb4.mono hb13.size)⟩
end Go.Proofs.Ytdgmllgmfbhceaa
