/- Clues raised unless they are some, and the door that they come to. -/
import Derived.Test.YtbkfenhiaedlgaaDoorPzA
set_option linter.all false
namespace Go.Proofs.YtbkfenhiaedlgaaDoor
open Go.RowKit

/-- A box of three cells. -/
structure Cv3 (B : Nat) (w : World) (a b c : Value) : Prop where
  lt : B < w.heap.size
  c0 : w.cell? ⟨B, 0, none⟩ = some a
  c1 : w.cell? ⟨B, 1, none⟩ = some b
  c2 : w.cell? ⟨B, 2, none⟩ = some c
theorem Cv3.next {B : Nat} {w w' : World} {a b c : Value} (h : Cv3 B w a b c) (hb : Below w.heap.size w w') : Cv3 B w' a b c :=
  ⟨Nat.lt_of_lt_of_le h.lt hb.size, (hb.cell (p := ⟨B, 0, none⟩) h.lt).trans h.c0, (hb.cell (p := ⟨B, 1, none⟩) h.lt).trans h.c1, (hb.cell (p := ⟨B, 2, none⟩) h.lt).trans h.c2⟩
theorem Cv3.start (w : World) (a b c : Value) (t : TypeId) : Cv3 w.heap.size (w.alloc (.cells #[a, b, c] t)) a b c := ⟨by simp, by simp, by simp, by simp⟩
structure Cv2 (B : Nat) (w : World) (a b : Value) : Prop where
  lt : B < w.heap.size
  c0 : w.cell? ⟨B, 0, none⟩ = some a
  c1 : w.cell? ⟨B, 1, none⟩ = some b
theorem Cv2.next {B : Nat} {w w' : World} {a b : Value} (h : Cv2 B w a b) (hb : Below w.heap.size w w') : Cv2 B w' a b :=
  ⟨Nat.lt_of_lt_of_le h.lt hb.size, (hb.cell (p := ⟨B, 0, none⟩) h.lt).trans h.c0, (hb.cell (p := ⟨B, 1, none⟩) h.lt).trans h.c1⟩
theorem Cv2.start (w : World) (a b : Value) (t : TypeId) : Cv2 w.heap.size (w.alloc (.cells #[a, b] t)) a b := ⟨by simp, by simp, by simp⟩
theorem raise_ok (c : Sq) (N : Int) (hN : 1 ≤ N ∧ N ≤ 36) (h0 : 0 ≤ c.x ∧ c.x ≤ 5) (h1 : (spA N c.x).1 ≤ c.y ∧ c.y ≤ (spA N c.x).2) (h2 : (spB c.x).1 ≤ c.d ∧ c.d ≤ (spB c.x).2) (w : World) : Calls Tryd.prog 159 #[.agg #[.int .i64 c.x, .int .i64 c.y, .int .i64 c.d], .int .i64 N] w fun e w' => e = .returned (.tuple #[]) ∧ Below w.heap.size w w' := by
  have C := fun w' => spans_yes c.x c.y c.d N hN h0 w'
  have C1 := fun w' => has_any (spA N c.x).1 (spA N c.x).2 c.y w'
  rw [show inB c.y (spA N c.x).1 (spA N c.x).2 = true from inB_iff.2 h1] at C1
  have C2 := fun w' => has_any (spB c.x).1 (spB c.x).2 c.d w'
  rw [show inB c.d (spB c.x).1 (spB c.x).2 = true from inB_iff.2 h2] at C2
  have K0 := Cv3.start w (.int .i64 c.x) (.int .i64 c.y) (.int .i64 c.d) 122
  have B0 : Below w.heap.size w (w.alloc (.cells #[.int .i64 c.x, .int .i64 c.y, .int .i64 c.d] 122)) := (Below.refl _ _).alloc (Nat.le_refl _) _
  go_enter Tryd.func159, Tryd.ntmps159
  go_wp2_with fail
  refine (C _).mono ?_
  rintro e w1 ⟨rfl, hb1⟩
  replace K0 := K0.next hb1
  replace B0 := B0.trans (hb1.mono B0.size)
  clear hb1
  obtain ⟨kl, k0, k1, k2⟩ := id K0
  go_wp2_with fail
  clear kl k0 k1 k2
  obtain ⟨W1, hW1⟩ : ∃ W1, W1 = (w1.alloc (.cells #[.int .i64 (spA N c.x).1, .int .i64 (spA N c.x).2] 210)).alloc (.cells #[.int .i64 (spB c.x).1, .int .i64 (spB c.x).2] 210) := ⟨_, rfl⟩
  have hb : Below w1.heap.size w1 W1 := by rw [hW1]; exact ((Below.refl _ _).alloc (Nat.le_refl _) _).alloc (by simp) _
  have P0 : Cv2 w1.heap.size W1 (.int .i64 (spA N c.x).1) (.int .i64 (spA N c.x).2) := by rw [hW1]; exact (Cv2.start _ _ _ _).next ((Below.refl _ _).alloc (Nat.le_refl _) _)
  have Q0 : Cv2 (w1.heap.size + 1) W1 (.int .i64 (spB c.x).1) (.int .i64 (spB c.x).2) := by
    have := Cv2.start (w1.alloc (.cells #[.int .i64 (spA N c.x).1, .int .i64 (spA N c.x).2] 210)) (.int .i64 (spB c.x).1) (.int .i64 (spB c.x).2) 210
    rw [World.size_alloc] at this
    rw [hW1]; exact this
  rw [← hW1]
  clear hW1
  replace K0 := K0.next hb
  replace B0 := B0.trans (hb.mono B0.size)
  clear hb
  obtain ⟨kl, k0, k1, k2⟩ := id K0
  obtain ⟨pl, p0, p1⟩ := id P0
  obtain ⟨ql, q0, q1⟩ := id Q0
  go_wp2_with fail
  clear kl k0 k1 k2 pl p0 p1 ql q0 q1
  refine (C1 _).mono ?_
  rintro e w2 ⟨rfl, hb⟩
  replace K0 := K0.next hb
  replace P0 := P0.next hb
  replace Q0 := Q0.next hb
  replace B0 := B0.trans (hb.mono B0.size)
  clear hb
  obtain ⟨kl, k0, k1, k2⟩ := id K0
  obtain ⟨pl, p0, p1⟩ := id P0
  obtain ⟨ql, q0, q1⟩ := id Q0
  go_wp2_with fail
  clear kl k0 k1 k2 pl p0 p1 ql q0 q1
  refine (C2 _).mono ?_
  rintro e w3 ⟨rfl, hb⟩
  replace K0 := K0.next hb
  replace B0 := B0.trans (hb.mono B0.size)
  clear hb
  obtain ⟨kl, k0, k1, k2⟩ := id K0
  go_wp2_with fail
  go_end0
  exact ⟨rfl, B0⟩
theorem raise_a (c : Sq) (N : Int) (hN : 1 ≤ N ∧ N ≤ 36) (h0 : 0 ≤ c.x ∧ c.x ≤ 5) (h1 : inB c.y (spA N c.x).1 (spA N c.x).2 = false) (w : World) : Calls Tryd.prog 159 #[.agg #[.int .i64 c.x, .int .i64 c.y, .int .i64 c.d], .int .i64 N] w fun e w' => e = .panicked [{ v := .iface 122 (.agg #[.int .i64 c.x, .int .i64 c.y, .int .i64 c.d]), recovered := false }] ∧ Below w.heap.size w w' := by
  have C := fun w' => spans_yes c.x c.y c.d N hN h0 w'
  have C1 := fun w' => has_any (spA N c.x).1 (spA N c.x).2 c.y w'
  rw [show inB c.y (spA N c.x).1 (spA N c.x).2 = false from h1] at C1
  have K0 := Cv3.start w (.int .i64 c.x) (.int .i64 c.y) (.int .i64 c.d) 122
  have B0 : Below w.heap.size w (w.alloc (.cells #[.int .i64 c.x, .int .i64 c.y, .int .i64 c.d] 122)) := (Below.refl _ _).alloc (Nat.le_refl _) _
  go_enter Tryd.func159, Tryd.ntmps159
  go_wp2_with fail
  refine (C _).mono ?_
  rintro e w1 ⟨rfl, hb1⟩
  replace K0 := K0.next hb1
  replace B0 := B0.trans (hb1.mono B0.size)
  clear hb1
  obtain ⟨kl, k0, k1, k2⟩ := id K0
  go_wp2_with fail
  clear kl k0 k1 k2
  obtain ⟨W1, hW1⟩ : ∃ W1, W1 = (w1.alloc (.cells #[.int .i64 (spA N c.x).1, .int .i64 (spA N c.x).2] 210)).alloc (.cells #[.int .i64 (spB c.x).1, .int .i64 (spB c.x).2] 210) := ⟨_, rfl⟩
  have hb : Below w1.heap.size w1 W1 := by rw [hW1]; exact ((Below.refl _ _).alloc (Nat.le_refl _) _).alloc (by simp) _
  have P0 : Cv2 w1.heap.size W1 (.int .i64 (spA N c.x).1) (.int .i64 (spA N c.x).2) := by rw [hW1]; exact (Cv2.start _ _ _ _).next ((Below.refl _ _).alloc (Nat.le_refl _) _)
  have Q0 : Cv2 (w1.heap.size + 1) W1 (.int .i64 (spB c.x).1) (.int .i64 (spB c.x).2) := by
    have := Cv2.start (w1.alloc (.cells #[.int .i64 (spA N c.x).1, .int .i64 (spA N c.x).2] 210)) (.int .i64 (spB c.x).1) (.int .i64 (spB c.x).2) 210
    rw [World.size_alloc] at this
    rw [hW1]; exact this
  rw [← hW1]
  clear hW1
  replace K0 := K0.next hb
  replace B0 := B0.trans (hb.mono B0.size)
  clear hb
  obtain ⟨kl, k0, k1, k2⟩ := id K0
  obtain ⟨pl, p0, p1⟩ := id P0
  obtain ⟨ql, q0, q1⟩ := id Q0
  go_wp2_with fail
  clear kl k0 k1 k2 pl p0 p1 ql q0 q1
  refine (C1 _).mono ?_
  rintro e w2 ⟨rfl, hb⟩
  replace K0 := K0.next hb
  replace P0 := P0.next hb
  replace Q0 := Q0.next hb
  replace B0 := B0.trans (hb.mono B0.size)
  clear hb
  obtain ⟨kl, k0, k1, k2⟩ := id K0
  obtain ⟨pl, p0, p1⟩ := id P0
  obtain ⟨ql, q0, q1⟩ := id Q0
  go_wp2_with fail
  exact ⟨rfl, rfl, B0⟩
theorem raise_b (c : Sq) (N : Int) (hN : 1 ≤ N ∧ N ≤ 36) (h0 : 0 ≤ c.x ∧ c.x ≤ 5) (h1 : (spA N c.x).1 ≤ c.y ∧ c.y ≤ (spA N c.x).2) (h2 : inB c.d (spB c.x).1 (spB c.x).2 = false) (w : World) : Calls Tryd.prog 159 #[.agg #[.int .i64 c.x, .int .i64 c.y, .int .i64 c.d], .int .i64 N] w fun e w' => e = .panicked [{ v := .iface 122 (.agg #[.int .i64 c.x, .int .i64 c.y, .int .i64 c.d]), recovered := false }] ∧ Below w.heap.size w w' := by
  have C := fun w' => spans_yes c.x c.y c.d N hN h0 w'
  have C1 := fun w' => has_any (spA N c.x).1 (spA N c.x).2 c.y w'
  rw [show inB c.y (spA N c.x).1 (spA N c.x).2 = true from inB_iff.2 h1] at C1
  have C2 := fun w' => has_any (spB c.x).1 (spB c.x).2 c.d w'
  rw [show inB c.d (spB c.x).1 (spB c.x).2 = false from h2] at C2
  have K0 := Cv3.start w (.int .i64 c.x) (.int .i64 c.y) (.int .i64 c.d) 122
  have B0 : Below w.heap.size w (w.alloc (.cells #[.int .i64 c.x, .int .i64 c.y, .int .i64 c.d] 122)) := (Below.refl _ _).alloc (Nat.le_refl _) _
  go_enter Tryd.func159, Tryd.ntmps159
  go_wp2_with fail
  refine (C _).mono ?_
  rintro e w1 ⟨rfl, hb1⟩
  replace K0 := K0.next hb1
  replace B0 := B0.trans (hb1.mono B0.size)
  clear hb1
  obtain ⟨kl, k0, k1, k2⟩ := id K0
  go_wp2_with fail
  clear kl k0 k1 k2
  obtain ⟨W1, hW1⟩ : ∃ W1, W1 = (w1.alloc (.cells #[.int .i64 (spA N c.x).1, .int .i64 (spA N c.x).2] 210)).alloc (.cells #[.int .i64 (spB c.x).1, .int .i64 (spB c.x).2] 210) := ⟨_, rfl⟩
  have hb : Below w1.heap.size w1 W1 := by rw [hW1]; exact ((Below.refl _ _).alloc (Nat.le_refl _) _).alloc (by simp) _
  have P0 : Cv2 w1.heap.size W1 (.int .i64 (spA N c.x).1) (.int .i64 (spA N c.x).2) := by rw [hW1]; exact (Cv2.start _ _ _ _).next ((Below.refl _ _).alloc (Nat.le_refl _) _)
  have Q0 : Cv2 (w1.heap.size + 1) W1 (.int .i64 (spB c.x).1) (.int .i64 (spB c.x).2) := by
    have := Cv2.start (w1.alloc (.cells #[.int .i64 (spA N c.x).1, .int .i64 (spA N c.x).2] 210)) (.int .i64 (spB c.x).1) (.int .i64 (spB c.x).2) 210
    rw [World.size_alloc] at this
    rw [hW1]; exact this
  rw [← hW1]
  clear hW1
  replace K0 := K0.next hb
  replace B0 := B0.trans (hb.mono B0.size)
  clear hb
  obtain ⟨kl, k0, k1, k2⟩ := id K0
  obtain ⟨pl, p0, p1⟩ := id P0
  obtain ⟨ql, q0, q1⟩ := id Q0
  go_wp2_with fail
  clear kl k0 k1 k2 pl p0 p1 ql q0 q1
  refine (C1 _).mono ?_
  rintro e w2 ⟨rfl, hb⟩
  replace K0 := K0.next hb
  replace P0 := P0.next hb
  replace Q0 := Q0.next hb
  replace B0 := B0.trans (hb.mono B0.size)
  clear hb
  obtain ⟨kl, k0, k1, k2⟩ := id K0
  obtain ⟨pl, p0, p1⟩ := id P0
  obtain ⟨ql, q0, q1⟩ := id Q0
  go_wp2_with fail
  clear kl k0 k1 k2 pl p0 p1 ql q0 q1
  refine (C2 _).mono ?_
  rintro e w3 ⟨rfl, hb⟩
  replace K0 := K0.next hb
  replace B0 := B0.trans (hb.mono B0.size)
  clear hb
  obtain ⟨kl, k0, k1, k2⟩ := id K0
  go_wp2_with fail
  exact ⟨rfl, rfl, B0⟩
theorem raise_k (c : Sq) (N : Int) (hN : 1 ≤ N ∧ N ≤ 36) (hk : ¬ (0 ≤ c.x ∧ c.x ≤ 5)) (w : World) : Calls Tryd.prog 159 #[.agg #[.int .i64 c.x, .int .i64 c.y, .int .i64 c.d], .int .i64 N] w fun e w' => e = .panicked [{ v := .iface 122 (.agg #[.int .i64 c.x, .int .i64 c.y, .int .i64 c.d]), recovered := false }] ∧ Below w.heap.size w w' := by
  have C := fun w' => spans_no c.x c.y c.d N hk w'
  have K0 := Cv3.start w (.int .i64 c.x) (.int .i64 c.y) (.int .i64 c.d) 122
  have B0 : Below w.heap.size w (w.alloc (.cells #[.int .i64 c.x, .int .i64 c.y, .int .i64 c.d] 122)) := (Below.refl _ _).alloc (Nat.le_refl _) _
  go_enter Tryd.func159, Tryd.ntmps159
  go_wp2_with fail
  refine (C _).mono ?_
  rintro e w1 ⟨rfl, hb1⟩
  replace K0 := K0.next hb1
  replace B0 := B0.trans (hb1.mono B0.size)
  clear hb1
  obtain ⟨kl, k0, k1, k2⟩ := id K0
  go_wp2_with fail
  exact ⟨rfl, rfl, B0⟩
theorem raise_yes (c : Sq) (N : Int) (hN : 1 ≤ N ∧ N ≤ 36) (h : ClueOk N c) (w : World) : Calls Tryd.prog 159 #[.agg #[.int .i64 c.x, .int .i64 c.y, .int .i64 c.d], .int .i64 N] w fun e w' => e = .returned (.tuple #[]) ∧ Below w.heap.size w w' := by
  obtain ⟨h0, h1, h2⟩ := clueOk_iff.1 h
  exact raise_ok c N hN h0 h1 h2 w
theorem raise_no (c : Sq) (N : Int) (hN : 1 ≤ N ∧ N ≤ 36) (h : ¬ ClueOk N c) (w : World) : Calls Tryd.prog 159 #[.agg #[.int .i64 c.x, .int .i64 c.y, .int .i64 c.d], .int .i64 N] w fun e w' => e = .panicked [{ v := .iface 122 (.agg #[.int .i64 c.x, .int .i64 c.y, .int .i64 c.d]), recovered := false }] ∧ Below w.heap.size w w' := by
  by_cases h0 : 0 ≤ c.x ∧ c.x ≤ 5
  · cases h1 : inB c.y (spA N c.x).1 (spA N c.x).2 with
    | false => exact raise_a c N hN h0 h1 w
    | true =>
      cases h2 : inB c.d (spB c.x).1 (spB c.x).2 with
      | false => exact raise_b c N hN h0 (inB_iff.1 h1) h2 w
      | true => exact absurd (clueOk_iff.2 ⟨h0, inB_iff.1 h1, inB_iff.1 h2⟩) h
  · exact raise_k c N hN h0 w
theorem assert_clue (x y d : Int) (w : World) : (Instr.typeAssert (.iface 122 (.agg #[.int .i64 x, .int .i64 y, .int .i64 d])) 20 122 true).run Tryd.prog w = .ok (.tuple #[.agg #[.int .i64 x, .int .i64 y, .int .i64 d], .bool true]) w := by kernel_rfl
theorem assert_nil (w : World) : (Instr.typeAssert .nilIface 20 122 true).run Tryd.prog w = .ok (.tuple #[.agg #[.int .i64 0, .int .i64 0, .int .i64 0], .bool false]) w := by kernel_rfl
theorem not_run (b : Bool) (w : World) : (Op.unary .not (.bool b)).run Tryd.prog w = .ok (.bool (!b)) w := rfl
set_option maxRecDepth 100000 in
theorem door_raised (p : Addr) (s : Sq) (older : List PanicEntry) (w : World) (x : Value) (hc : w.cell? p = some x) (hz : w.frozen? p = false) (hl : p.block < w.heap.size) :
    CallsD Tryd.prog 158 #[.pointer (some p)] (.panicking ({ v := .iface 122 (.agg #[.int .i64 s.x, .int .i64 s.y, .int .i64 s.d]), recovered := false } :: older)) w fun e u' w' =>
      e = .returned (.tuple #[]) ∧ u' = .panicking ({ v := .iface 122 (.agg #[.int .i64 s.x, .int .i64 s.y, .int .i64 s.d]), recovered := true } :: older) ∧ ∃ o, w' = (w.alloc o).setCell p (.bool false) := by
  have A1 := assert_clue s.x s.y s.d
  have hcA : ∀ o, (w.alloc o).cell? p = some x := fun o => (((Below.refl w.heap.size w).alloc (Nat.le_refl _) o).cell hl).trans hc
  have hzA : ∀ o, (w.alloc o).frozen? p = false := fun o => (((Below.refl w.heap.size w).alloc (Nat.le_refl _) o).frozen hl).trans hz
  refine callsD_of_wpS Tryd.func158 rfl fun c₀ cs hu => ?_
  apply wpS_seq
  apply wpS_region
  simp [wpOpsS, go_sem, recoverD, hu, Tryd.ntmps158, Exit.thenS, A1]
  apply wpS_region
  simp [wpOpsS, go_sem, hcA, hzA, not_run, bodyPostS, results, Tryd.results158]
  exact ⟨_, rfl⟩
set_option maxRecDepth 100000 in
theorem door_idle (p : Addr) (w : World) (x : Value) (hc : w.cell? p = some x) (hz : w.frozen? p = false) (hl : p.block < w.heap.size) :
    CallsD Tryd.prog 158 #[.pointer (some p)] .returning w fun e u' w' => e = .returned (.tuple #[]) ∧ u' = .returning ∧ ∃ o, w' = (w.alloc o).setCell p (.bool true) := by
  have A1 := assert_nil
  have hcA : ∀ o, (w.alloc o).cell? p = some x := fun o => (((Below.refl w.heap.size w).alloc (Nat.le_refl _) o).cell hl).trans hc
  have hzA : ∀ o, (w.alloc o).frozen? p = false := fun o => (((Below.refl w.heap.size w).alloc (Nat.le_refl _) o).frozen hl).trans hz
  refine callsD_of_wpS Tryd.func158 rfl fun c₀ cs hu => ?_
  apply wpS_seq
  apply wpS_region
  simp [wpOpsS, go_sem, recoverD, hu, Tryd.ntmps158, Exit.thenS, A1]
  apply wpS_region
  simp [wpOpsS, go_sem, hcA, hzA, not_run, bodyPostS, results, Tryd.results158, hu]
  exact ⟨c₀.mode, rfl, hu, _, rfl⟩
set_option maxRecDepth 100000 in
set_option maxHeartbeats 4000000 in
theorem areClues_any (N : Int) (hN : 1 ≤ N ∧ N ≤ 36) (A : Option Addr) (n c : Nat) (L : List Sq) (w : World) (hl : L.length = n) (hn : n ≤ 1048576) (hL : SqsAt w w.heap.size A L) :
    Calls Tryd.prog 136 #[.int .i64 N, .slice A n c] w (RetB w (∀ s ∈ L, ClueOk N s)) := by
  have hmf : ∀ (fn : Fn) (first cap : Array Value) (w : World), (Instr.makeFunc fn first cap).run Tryd.prog w = .ok (.func fn first cap) w := fun _ _ _ _ => rfl
  have hb0 : Below w.heap.size w (w.alloc (.cells #[.bool false] 4)) := (Below.refl _ _).alloc (Nat.le_refl _) _
  go_enter_defers Tryd.func136, Tryd.ntmps136
  go_wp2_with fail
  obtain ⟨W0, hW0⟩ : ∃ W0, W0 = w.alloc (.cells #[.bool false] 4) := ⟨_, rfl⟩
  rw [← hW0] at hb0 ⊢
  have y0 : w.heap.size < W0.heap.size := by rw [hW0]; simp
  have y1 : W0.cell? ⟨w.heap.size, 0, none⟩ = some (.bool false) := by rw [hW0]; simp
  have y2 : W0.frozen? ⟨w.heap.size, 0, none⟩ = false := by rw [hW0]; simp [go_sem]
  clear hW0
  go_loopw [10] (fun i wr => ∃ k : Nat, k ≤ n ∧ i = .int .i64 k ∧ (∀ j s, j < k → L[j]? = some s → ClueOk N s) ∧ Below w.heap.size w wr ∧ w.heap.size < wr.heap.size ∧ wr.cell? ⟨w.heap.size, 0, none⟩ = some (.bool false) ∧ wr.frozen? ⟨w.heap.size, 0, none⟩ = false) (fun i _ => n - (intOf i).toNat)
  case atStart => exact ⟨0, Nat.zero_le _, rfl, fun j s h => absurd h (Nat.not_lt_zero _), hb0, y0, y1, y2⟩
  case round =>
    obtain ⟨k, hk, rfl, hpre, hbr, z0, z1, z2⟩ := hrel
    clear hb0 y0 y1 y2
    by_cases hlt : k < n
    · obtain ⟨s, hs⟩ : ∃ s, L[k]? = some s := ⟨_, List.getElem?_eq_getElem (by rw [hl]; exact hlt)⟩
      obtain ⟨b, off, rfl, hb, c0, c1, c2⟩ := hL k s hs
      have HP := Lib.hid hpre
      have HS := Lib.hid hs
      have HL := Lib.hid hl
      have c0' := (hbr.cell (p := ⟨b, off + k * 3, none⟩) hb).trans c0
      have c1' := (hbr.cell (p := ⟨b, off + k * 3 + 1, none⟩) hb).trans c1
      have c2' := (hbr.cell (p := ⟨b, off + k * 3 + 2, none⟩) hb).trans c2
      clear c0 c1 c2 hL hpre hs hl
      have k0 : (0 : Int) ≤ (k : Int) := by omega
      have k1 : (k : Int) < (n : Int) := by omega
      by_cases hok : ClueOk N s
      · go_wp2_with fail
        obtain ⟨W1, hW1⟩ : ∃ W1, W1 = wr.alloc (.cells #[.int .i64 s.x, .int .i64 s.y, .int .i64 s.d] 122) := ⟨_, rfl⟩
        have hb1 : Below wr.heap.size wr W1 := by rw [hW1]; exact (Below.refl _ _).alloc (Nat.le_refl _) _
        rw [← hW1]
        clear hW1
        refine (raise_yes s N hN hok W1).mono ?_
        rintro e w2 ⟨rfl, hb2⟩
        have hb3 : Below wr.heap.size wr w2 := hb1.trans (hb2.mono hb1.size)
        clear c0' c1' c2'
        go_wp2_with fail
        go_roundw
        case rel =>
          refine ⟨k + 1, by omega, by go_num, fun j t hj ht => ?_, hbr.trans (hb3.mono hbr.size), Nat.lt_of_lt_of_le z0 hb3.size, (hb3.cell (p := ⟨w.heap.size, 0, none⟩) z0).trans z1, (hb3.frozen (p := ⟨w.heap.size, 0, none⟩) z0).trans z2⟩
          rcases (by omega : j < k ∨ j = k) with h | rfl
          · exact HP.out j t h ht
          · rw [HS.out] at ht; cases ht; exact hok
        case measure => simp [intOf]; omega
      · go_wp2_with fail
        obtain ⟨W1, hW1⟩ : ∃ W1, W1 = wr.alloc (.cells #[.int .i64 s.x, .int .i64 s.y, .int .i64 s.d] 122) := ⟨_, rfl⟩
        have hb1 : Below wr.heap.size wr W1 := by rw [hW1]; exact (Below.refl _ _).alloc (Nat.le_refl _) _
        rw [← hW1]
        clear hW1
        refine (raise_no s N hN hok W1).mono ?_
        rintro e w2 ⟨rfl, hb2⟩
        have hb3 : Below wr.heap.size wr w2 := hb1.trans (hb2.mono hb1.size)
        clear c0' c1' c2'
        have z0' := Nat.lt_of_lt_of_le z0 hb3.size
        have z1' := (hb3.cell (p := ⟨w.heap.size, 0, none⟩) z0).trans z1
        have z2' := (hb3.frozen (p := ⟨w.heap.size, 0, none⟩) z0).trans z2
        go_wp2_with fail
        refine leaves_cons (f := 158) (args := #[.pointer (some ⟨w.heap.size, 0, none⟩)]) (by simp) (by simp [go_sem]) ?_
        refine (door_raised ⟨w.heap.size, 0, none⟩ s [] w2 _ z1' z2' z0').mono ?_
        rintro e u' w'' ⟨rfl, rfl, o, rfl⟩
        have zz : (w2.alloc o).cell? ⟨w.heap.size, 0, none⟩ = some (.bool false) := (((Below.refl w2.heap.size w2).alloc (Nat.le_refl _) o).cell (p := ⟨w.heap.size, 0, none⟩) z0').trans z1'
        have zq : ((w2.alloc o).setCell ⟨w.heap.size, 0, none⟩ (.bool false)).cell? ⟨w.heap.size, 0, none⟩ = some (.bool false) := by simp [go_sem, zz]
        have hbz : Below w.heap.size w ((w2.alloc o).setCell ⟨w.heap.size, 0, none⟩ (.bool false)) := ((hbr.trans (hb3.mono hbr.size)).alloc (Nat.le_of_lt z0') o).setCell (p := ⟨w.heap.size, 0, none⟩) (Nat.le_refl _) _
        simp [Leaves, settle, results, Tryd.results136, go_sem, zq]
        exact RetB.mk ⟨fun h => (by cases h), fun h => absurd (h s (List.mem_of_getElem? HS.out)) hok⟩ hbz
    · obtain rfl : k = n := by omega
      have HP := Lib.hid hpre
      clear hpre hL
      have z3 : (wr.setCell ⟨w.heap.size, 0, none⟩ (.bool true)).cell? ⟨w.heap.size, 0, none⟩ = some (.bool true) := by simp [go_sem, z1]
      have z4 : (wr.setCell ⟨w.heap.size, 0, none⟩ (.bool true)).frozen? ⟨w.heap.size, 0, none⟩ = false := by simp [go_sem, z2]
      have z5 : w.heap.size < (wr.setCell ⟨w.heap.size, 0, none⟩ (.bool true)).heap.size := by simpa using z0
      go_wp2_with fail
      refine leaves_cons (f := 158) (args := #[.pointer (some ⟨w.heap.size, 0, none⟩)]) (by simp) (by simp [go_sem]) ?_
      refine (door_idle ⟨w.heap.size, 0, none⟩ _ _ z3 z4 z5).mono ?_
      rintro e u' w'' ⟨rfl, rfl, o, rfl⟩
      have zz : ((wr.setCell ⟨w.heap.size, 0, none⟩ (.bool true)).alloc o).cell? ⟨w.heap.size, 0, none⟩ = some (.bool true) := (((Below.refl _ _).alloc (Nat.le_refl _) o).cell (p := ⟨w.heap.size, 0, none⟩) z5).trans z3
      have zq : (((wr.setCell ⟨w.heap.size, 0, none⟩ (.bool true)).alloc o).setCell ⟨w.heap.size, 0, none⟩ (.bool true)).cell? ⟨w.heap.size, 0, none⟩ = some (.bool true) := World.cell?_setCell_same (h := zz) ..
      have hbz : Below w.heap.size w (((wr.setCell ⟨w.heap.size, 0, none⟩ (.bool true)).alloc o).setCell ⟨w.heap.size, 0, none⟩ (.bool true)) := ((hbr.setCell (p := ⟨w.heap.size, 0, none⟩) (Nat.le_refl _) _).alloc (Nat.le_of_lt z5) o).setCell (p := ⟨w.heap.size, 0, none⟩) (Nat.le_refl _) _
      simp only [Leaves, settle]
      refine ⟨.bool true, by simp [results, Tryd.results136, go_sem, zq], RetB.mk ⟨fun _ s hs => ?_, fun _ => rfl⟩ hbz⟩
      obtain ⟨j, hj⟩ := List.getElem?_of_mem hs
      have hj' := (List.getElem?_eq_some_iff.1 hj).1
      exact HP.out j s (by omega) hj
end Go.Proofs.YtbkfenhiaedlgaaDoor
