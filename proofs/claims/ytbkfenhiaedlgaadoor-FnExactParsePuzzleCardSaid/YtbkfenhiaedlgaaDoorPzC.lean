/- What is a clue and what is a puzzle: both sides. -/
import Derived.Test.YtbkfenhiaedlgaaDoorPzB
import Derived.Test.YtbkfenhiaedlgaaDoorPz
set_option linter.all false
namespace Go.Proofs.YtbkfenhiaedlgaaDoor
open Go.RowKit

theorem d1 (P Q : Prop) : dc (P ∧ Q) = (dc P && dc Q) := by
  by_cases p : P <;> by_cases q : Q <;> simp [dc, p, q]
theorem inB_dc (n lo hi : Int) : inB n lo hi = dc (lo ≤ n ∧ n ≤ hi) := by
  cases h : inB n lo hi with
  | true => rw [dc_true (inB_iff.1 h)]
  | false => rw [dc_false fun h' => by rw [inB_iff.2 h'] at h; cases h]
theorem clueOk_dc (N : Int) (c : Sq) (h : 0 ≤ c.x ∧ c.x ≤ 5) : dc (ClueOk N c) = (inB c.y (spA N c.x).1 (spA N c.x).2 && inB c.d (spB c.x).1 (spB c.x).2) := by
  rw [inB_dc, inB_dc, ← d1, show ClueOk N c = _ from propext clueOk_iff]
  congr 1
  exact propext ⟨fun h => h.2, fun h' => ⟨h, h'⟩⟩
theorem eq0_inB (n : Int) : (n == 0) = inB n 0 0 := by
  rw [Bool.eq_iff_iff, inB_iff]; simp; omega
theorem pzClue_0 (W H a b : Int) (hN : 1 ≤ W * H ∧ W * H ≤ 36) (w : World) : Calls Tryd.prog 133 #[.int .i64 W, .int .i64 H, .agg #[.int .i64 0, .int .i64 a, .int .i64 b]] w fun e w' => e = .returned (.bool (inB a (spA (W * H) 0).1 (spA (W * H) 0).2 && inB b (spB 0).1 (spB 0).2)) ∧ Below w.heap.size w w' := by
  have B0 : Below w.heap.size w (w.alloc (.cells #[.int .i64 0, .int .i64 a, .int .i64 b] 122)) := (Below.refl _ _).alloc (Nat.le_refl _) _
  have C1 := fun w' => l1In_any a (spA (W * H) 0).1 (spA (W * H) 0).2 w'
  have E := eq0_inB b
  simp only [spA, spB] at C1 ⊢
  simp only [show ∀ a b : Int, (a, b).1 = a from fun _ _ => rfl, show ∀ a b : Int, (a, b).2 = b from fun _ _ => rfl, Int.reduceEq, if_true, if_false, reduceIte] at C1 ⊢
  cases e1 : inB a 1 12 with
  | false =>
    rw [e1] at C1
    go_enter Tryd.func133, Tryd.ntmps133
    go_wp2_with fail
    refine (C1 _).mono ?_
    rintro e w1 ⟨rfl, rfl⟩
    go_wp2_with fail
    go_ret
    exact ⟨rfl, B0⟩
  | true =>
    rw [e1] at C1
    go_enter Tryd.func133, Tryd.ntmps133
    go_wp2_with fail
    refine (C1 _).mono ?_
    rintro e w1 ⟨rfl, rfl⟩
    go_wp2_with fail
    go_ret
    exact ⟨rfl, B0⟩
theorem pzClue_1 (W H a b : Int) (hN : 1 ≤ W * H ∧ W * H ≤ 36) (w : World) : Calls Tryd.prog 133 #[.int .i64 W, .int .i64 H, .agg #[.int .i64 1, .int .i64 a, .int .i64 b]] w fun e w' => e = .returned (.bool (inB a (spA (W * H) 1).1 (spA (W * H) 1).2 && inB b (spB 1).1 (spB 1).2)) ∧ Below w.heap.size w w' := by
  have B0 : Below w.heap.size w (w.alloc (.cells #[.int .i64 1, .int .i64 a, .int .i64 b] 122)) := (Below.refl _ _).alloc (Nat.le_refl _) _
  have C1 := fun w' => l1In_any a (spA (W * H) 1).1 (spA (W * H) 1).2 w'
  have E := eq0_inB b
  have C2 := fun w' => l1In_any b (spB 1).1 (spB 1).2 w'
  simp only [spA, spB] at C1 C2 ⊢
  simp only [show ∀ a b : Int, (a, b).1 = a from fun _ _ => rfl, show ∀ a b : Int, (a, b).2 = b from fun _ _ => rfl, Int.reduceEq, if_true, if_false, reduceIte] at C1 C2 ⊢
  cases e1 : inB a 1 6 with
  | false =>
    rw [e1] at C1
    go_enter Tryd.func133, Tryd.ntmps133
    go_wp2_with fail
    refine (C1 _).mono ?_
    rintro e w1 ⟨rfl, rfl⟩
    go_wp2_with fail
    go_ret
    exact ⟨rfl, B0⟩
  | true =>
    rw [e1] at C1
    go_enter Tryd.func133, Tryd.ntmps133
    go_wp2_with fail
    refine (C1 _).mono ?_
    rintro e w1 ⟨rfl, rfl⟩
    go_wp2_with fail
    refine (C2 _).mono ?_
    rintro e w2 ⟨rfl, rfl⟩
    go_wp2_with fail
    go_ret
    exact ⟨rfl, B0⟩
theorem pzClue_2 (W H a b : Int) (hN : 1 ≤ W * H ∧ W * H ≤ 36) (w : World) : Calls Tryd.prog 133 #[.int .i64 W, .int .i64 H, .agg #[.int .i64 2, .int .i64 a, .int .i64 b]] w fun e w' => e = .returned (.bool (inB a (spA (W * H) 2).1 (spA (W * H) 2).2 && inB b (spB 2).1 (spB 2).2)) ∧ Below w.heap.size w w' := by
  have B0 : Below w.heap.size w (w.alloc (.cells #[.int .i64 2, .int .i64 a, .int .i64 b] 122)) := (Below.refl _ _).alloc (Nat.le_refl _) _
  have C1 := fun w' => l1In_any a (spA (W * H) 2).1 (spA (W * H) 2).2 w'
  have E := eq0_inB b
  have C2 := fun w' => l1In_any b (spB 2).1 (spB 2).2 w'
  simp only [spA, spB] at C1 C2 ⊢
  simp only [show ∀ a b : Int, (a, b).1 = a from fun _ _ => rfl, show ∀ a b : Int, (a, b).2 = b from fun _ _ => rfl, Int.reduceEq, if_true, if_false, reduceIte] at C1 C2 ⊢
  obtain ⟨N, hp⟩ : ∃ N, W * H = N := ⟨_, rfl⟩
  rw [hp] at hN C1 ⊢
  have wa : IntKind.i64.wrap (W * H) = N := by rw [hp]; exact IntWalk.i64_in _ (by omega)
  clear hp
  cases e1 : inB a 0 (N - 1) with
  | false =>
    rw [e1] at C1
    go_enter Tryd.func133, Tryd.ntmps133
    go_wp2_with fail
    refine (C1 _).mono ?_
    rintro e w1 ⟨rfl, rfl⟩
    go_wp2_with fail
    go_ret
    exact ⟨rfl, B0⟩
  | true =>
    rw [e1] at C1
    go_enter Tryd.func133, Tryd.ntmps133
    go_wp2_with fail
    refine (C1 _).mono ?_
    rintro e w1 ⟨rfl, rfl⟩
    go_wp2_with fail
    refine (C2 _).mono ?_
    rintro e w2 ⟨rfl, rfl⟩
    go_wp2_with fail
    go_ret
    exact ⟨rfl, B0⟩
theorem pzClue_3 (W H a b : Int) (hN : 1 ≤ W * H ∧ W * H ≤ 36) (w : World) : Calls Tryd.prog 133 #[.int .i64 W, .int .i64 H, .agg #[.int .i64 3, .int .i64 a, .int .i64 b]] w fun e w' => e = .returned (.bool (inB a (spA (W * H) 3).1 (spA (W * H) 3).2 && inB b (spB 3).1 (spB 3).2)) ∧ Below w.heap.size w w' := by
  have B0 : Below w.heap.size w (w.alloc (.cells #[.int .i64 3, .int .i64 a, .int .i64 b] 122)) := (Below.refl _ _).alloc (Nat.le_refl _) _
  have C1 := fun w' => l1In_any a (spA (W * H) 3).1 (spA (W * H) 3).2 w'
  have E := eq0_inB b
  have C2 := fun w' => l1In_any b (spB 3).1 (spB 3).2 w'
  simp only [spA, spB] at C1 C2 ⊢
  simp only [show ∀ a b : Int, (a, b).1 = a from fun _ _ => rfl, show ∀ a b : Int, (a, b).2 = b from fun _ _ => rfl, Int.reduceEq, if_true, if_false, reduceIte] at C1 C2 ⊢
  cases e1 : inB a 0 3 with
  | false =>
    rw [e1] at C1
    go_enter Tryd.func133, Tryd.ntmps133
    go_wp2_with fail
    refine (C1 _).mono ?_
    rintro e w1 ⟨rfl, rfl⟩
    go_wp2_with fail
    go_ret
    exact ⟨rfl, B0⟩
  | true =>
    rw [e1] at C1
    go_enter Tryd.func133, Tryd.ntmps133
    go_wp2_with fail
    refine (C1 _).mono ?_
    rintro e w1 ⟨rfl, rfl⟩
    go_wp2_with fail
    refine (C2 _).mono ?_
    rintro e w2 ⟨rfl, rfl⟩
    go_wp2_with fail
    go_ret
    exact ⟨rfl, B0⟩
theorem pzClue_4 (W H a b : Int) (hN : 1 ≤ W * H ∧ W * H ≤ 36) (w : World) : Calls Tryd.prog 133 #[.int .i64 W, .int .i64 H, .agg #[.int .i64 4, .int .i64 a, .int .i64 b]] w fun e w' => e = .returned (.bool (inB a (spA (W * H) 4).1 (spA (W * H) 4).2 && inB b (spB 4).1 (spB 4).2)) ∧ Below w.heap.size w w' := by
  have B0 : Below w.heap.size w (w.alloc (.cells #[.int .i64 4, .int .i64 a, .int .i64 b] 122)) := (Below.refl _ _).alloc (Nat.le_refl _) _
  have C1 := fun w' => l1In_any a (spA (W * H) 4).1 (spA (W * H) 4).2 w'
  have E := eq0_inB b
  simp only [spA, spB] at C1 ⊢
  simp only [show ∀ a b : Int, (a, b).1 = a from fun _ _ => rfl, show ∀ a b : Int, (a, b).2 = b from fun _ _ => rfl, Int.reduceEq, if_true, if_false, reduceIte] at C1 ⊢
  cases e1 : inB a 0 12 with
  | false =>
    rw [e1] at C1
    go_enter Tryd.func133, Tryd.ntmps133
    go_wp2_with fail
    refine (C1 _).mono ?_
    rintro e w1 ⟨rfl, rfl⟩
    go_wp2_with fail
    go_ret
    exact ⟨rfl, B0⟩
  | true =>
    rw [e1] at C1
    go_enter Tryd.func133, Tryd.ntmps133
    go_wp2_with fail
    refine (C1 _).mono ?_
    rintro e w1 ⟨rfl, rfl⟩
    go_wp2_with fail
    go_ret
    exact ⟨rfl, B0⟩
theorem pzClue_5 (W H a b : Int) (hN : 1 ≤ W * H ∧ W * H ≤ 36) (w : World) : Calls Tryd.prog 133 #[.int .i64 W, .int .i64 H, .agg #[.int .i64 5, .int .i64 a, .int .i64 b]] w fun e w' => e = .returned (.bool (inB a (spA (W * H) 5).1 (spA (W * H) 5).2 && inB b (spB 5).1 (spB 5).2)) ∧ Below w.heap.size w w' := by
  have B0 : Below w.heap.size w (w.alloc (.cells #[.int .i64 5, .int .i64 a, .int .i64 b] 122)) := (Below.refl _ _).alloc (Nat.le_refl _) _
  have C1 := fun w' => l1In_any a (spA (W * H) 5).1 (spA (W * H) 5).2 w'
  have E := eq0_inB b
  simp only [spA, spB] at C1 ⊢
  simp only [show ∀ a b : Int, (a, b).1 = a from fun _ _ => rfl, show ∀ a b : Int, (a, b).2 = b from fun _ _ => rfl, Int.reduceEq, if_true, if_false, reduceIte] at C1 ⊢
  cases e1 : inB a 0 6 with
  | false =>
    rw [e1] at C1
    go_enter Tryd.func133, Tryd.ntmps133
    go_wp2_with fail
    refine (C1 _).mono ?_
    rintro e w1 ⟨rfl, rfl⟩
    go_wp2_with fail
    go_ret
    exact ⟨rfl, B0⟩
  | true =>
    rw [e1] at C1
    go_enter Tryd.func133, Tryd.ntmps133
    go_wp2_with fail
    refine (C1 _).mono ?_
    rintro e w1 ⟨rfl, rfl⟩
    go_wp2_with fail
    go_ret
    exact ⟨rfl, B0⟩
theorem pzClue_no (W H a b k : Int) (hk : ¬ (0 ≤ k ∧ k ≤ 5)) (w : World) : Calls Tryd.prog 133 #[.int .i64 W, .int .i64 H, .agg #[.int .i64 k, .int .i64 a, .int .i64 b]] w fun e w' => e = .returned (.bool false) ∧ Below w.heap.size w w' := by
  have B0 : Below w.heap.size w (w.alloc (.cells #[.int .i64 k, .int .i64 a, .int .i64 b] 122)) := (Below.refl _ _).alloc (Nat.le_refl _) _
  have h0 : (k == 0) = false := by simp; omega
  have h1 : (k == 1) = false := by simp; omega
  have h2 : (k == 2) = false := by simp; omega
  have h3 : (k == 3) = false := by simp; omega
  have h4 : (k == 4) = false := by simp; omega
  have h5 : (k == 5) = false := by simp; omega
  go_enter Tryd.func133, Tryd.ntmps133
  go_wp2_with fail
  go_ret
  exact ⟨rfl, B0⟩
theorem pzClue_any (W H : Int) (hN : 1 ≤ W * H ∧ W * H ≤ 36) (c : Sq) (w : World) : Calls Tryd.prog 133 #[.int .i64 W, .int .i64 H, .agg #[.int .i64 c.x, .int .i64 c.y, .int .i64 c.d]] w (RetB w (ClueOk (W * H) c)) := by
  by_cases h : 0 ≤ c.x ∧ c.x ≤ 5
  · unfold RetB
    rw [clueOk_dc _ c h]
    obtain ⟨k, a, b⟩ := c
    dsimp only at h ⊢
    rcases (by omega : k = 0 ∨ k = 1 ∨ k = 2 ∨ k = 3 ∨ k = 4 ∨ k = 5) with rfl | rfl | rfl | rfl | rfl | rfl
    · exact pzClue_0 W H a b hN w
    · exact pzClue_1 W H a b hN w
    · exact pzClue_2 W H a b hN w
    · exact pzClue_3 W H a b hN w
    · exact pzClue_4 W H a b hN w
    · exact pzClue_5 W H a b hN w
  · exact (pzClue_no W H c.y c.d c.x h w).mono fun e w' hh => ⟨by rw [hh.1, dc_false fun h' => h (clueOk_iff.1 h').1], hh.2⟩
end Go.Proofs.YtbkfenhiaedlgaaDoor
