/- Cz, PzS, PzA, PzB, Pz, PzC, PzD: texts in one. -/
import Derived.Test.YtchabjmdjpfkfaaGreatLsA
import Derived.Test.YtchabjmdjpfkfaaGreatCtlA
import Derived.WalkSmall
import Derived.Defers
import Derived.Recover
import Derived.Test.YtchabjmdjpfkfaaGreatGen
set_option linter.all false

namespace Go.Proofs.YtchabjmdjpfkfaaGreat
open Go.RowKit

def okP (W H : Int) : Bool := okF W H && decide (W * H ≤ 12)
theorem okP_iff {W H : Int} : okP W H = true ↔ ((1 ≤ W ∧ W ≤ 6) ∧ 1 ≤ H ∧ H ≤ 6) ∧ W * H ≤ 12 := by
  unfold okP; rw [Bool.and_eq_true, okF_iff, decide_eq_true_iff]
theorem okP_size {W H : Int} (h : okP W H = true) : 1 ≤ W * H ∧ W * H ≤ 12 := by
  have h' := okP_iff.1 h
  exact ⟨(mul_bound (by omega) (by omega) (by omega) (by omega)).1, h'.2⟩
theorem hidSize_any (W H : Int) (w : World) : Calls Tryz.prog 58 #[.int .i64 W, .int .i64 H] w fun e w' => e = .returned (.bool (okP W H)) ∧ w = w' := by
  have ha := areUpTo_any 6 W H w
  cases hok : okF W H with
  | false =>
    rw [show (inB W 1 6 && inB H 1 6) = false from hok] at ha
    unfold okP
    rw [hok]
    go_enter Tryz.func58, Tryz.ntmps58
    go_wp2_with fail
    refine ha.mono ?_
    rintro e w' ⟨rfl, rfl⟩
    go_wp2_with fail
    go_ret
    exact ⟨rfl, rfl⟩
  | true =>
    rw [show (inB W 1 6 && inB H 1 6) = true from hok] at ha
    have h := okF_iff.1 hok
    unfold okP
    rw [hok]
    obtain ⟨p, hp⟩ : ∃ p, W * H = p := ⟨_, rfl⟩
    have h36 := mul_bound (a := W) (b := H) (by omega) (by omega) (by omega) (by omega)
    rw [hp] at h36 ⊢
    have wa : IntKind.i64.wrap (W * H) = p := by rw [hp]; exact IntWalk.i64_in _ (by omega)
    clear hp hok
    go_enter Tryz.func58, Tryz.ntmps58
    go_wp2_with fail
    refine ha.mono ?_
    rintro e w' ⟨rfl, rfl⟩
    go_wp2_with fail
    go_ret
    exact ⟨ret_bool (by rw [Bool.eq_iff_iff]; simp; try omega), rfl⟩
theorem pzSize_any (W H : Int) (w : World) : Calls Tryz.prog 33 #[.int .i64 W, .int .i64 H] w fun e w' => e = .returned (.bool (okP W H)) ∧ w = w' := by
  have ha := ctSize_any W H w
  cases hok : okF W H with
  | false =>
    rw [show (okF W H) = false from hok] at ha
    unfold okP
    rw [hok]
    go_enter Tryz.func33, Tryz.ntmps33
    go_wp2_with fail
    refine ha.mono ?_
    rintro e w' ⟨rfl, rfl⟩
    go_wp2_with fail
    go_ret
    exact ⟨rfl, rfl⟩
  | true =>
    rw [show (okF W H) = true from hok] at ha
    have h := okF_iff.1 hok
    unfold okP
    rw [hok]
    obtain ⟨p, hp⟩ : ∃ p, W * H = p := ⟨_, rfl⟩
    have h36 := mul_bound (a := W) (b := H) (by omega) (by omega) (by omega) (by omega)
    rw [hp] at h36 ⊢
    have wa : IntKind.i64.wrap (W * H) = p := by rw [hp]; exact IntWalk.i64_in _ (by omega)
    clear hp hok
    go_enter Tryz.func33, Tryz.ntmps33
    go_wp2_with fail
    refine ha.mono ?_
    rintro e w' ⟨rfl, rfl⟩
    go_wp2_with fail
    go_ret
    exact ⟨ret_bool (by rw [Bool.eq_iff_iff]; simp; try omega), rfl⟩
end Go.Proofs.YtchabjmdjpfkfaaGreat
namespace Go.Proofs.YtchabjmdjpfkfaaGreat
open Go.RowKit

/-- A clue of hidden cuts with N cells. -/
def ClueOk (N : Int) (c : Sq) : Prop := (c.x = 0 ∧ (1 ≤ c.y ∧ c.y ≤ 12) ∧ (0 ≤ c.d ∧ c.d ≤ 0)) ∨ (c.x = 1 ∧ (1 ≤ c.y ∧ c.y ≤ 6) ∧ (0 ≤ c.d ∧ c.d ≤ 12)) ∨ (c.x = 2 ∧ (0 ≤ c.y ∧ c.y ≤ N - 1) ∧ (1 ≤ c.d ∧ c.d ≤ 6)) ∨ (c.x = 3 ∧ (0 ≤ c.y ∧ c.y ≤ 3) ∧ (0 ≤ c.d ∧ c.d ≤ 12)) ∨ (c.x = 4 ∧ (0 ≤ c.y ∧ c.y ≤ 12) ∧ (0 ≤ c.d ∧ c.d ≤ 0)) ∨ (c.x = 5 ∧ (0 ≤ c.y ∧ c.y ≤ 6) ∧ (0 ≤ c.d ∧ c.d ≤ 0))
def spA (N k : Int) : Int × Int := if k = 0 then (1, 12) else if k = 1 then (1, 6) else if k = 2 then (0, N - 1) else if k = 3 then (0, 3) else if k = 4 then (0, 12) else (0, 6)
def spB (k : Int) : Int × Int := if k = 1 then (0, 12) else if k = 2 then (1, 6) else if k = 3 then (0, 12) else (0, 0)
theorem kinds (k : Int) : k = 0 ∨ k = 1 ∨ k = 2 ∨ k = 3 ∨ k = 4 ∨ k = 5 ∨ ((k == 0) = false ∧ (k == 1) = false ∧ (k == 2) = false ∧ (k == 3) = false ∧ (k == 4) = false ∧ (k == 5) = false ∧ ¬ (0 ≤ k ∧ k ≤ 5)) := by
  simp only [beq_eq_false_iff_ne]; omega
theorem clueOk_iff {N : Int} {c : Sq} : ClueOk N c ↔ (0 ≤ c.x ∧ c.x ≤ 5) ∧ ((spA N c.x).1 ≤ c.y ∧ c.y ≤ (spA N c.x).2) ∧ ((spB c.x).1 ≤ c.d ∧ c.d ≤ (spB c.x).2) := by
  unfold ClueOk spA spB
  rcases kinds c.x with h | h | h | h | h | h | ⟨_, _, _, _, _, _, h⟩
  · simp [h]
  · simp [h]
  · simp [h]
  · simp [h]
  · simp [h]
  · simp [h]
  · constructor
    · rintro (⟨h', _⟩ | ⟨h', _⟩ | ⟨h', _⟩ | ⟨h', _⟩ | ⟨h', _⟩ | ⟨h', _⟩) <;> omega
    · rintro ⟨h', _⟩; exact absurd h' h
theorem spans_yes (k a b N : Int) (hN : 1 ≤ N ∧ N ≤ 36) (hk : 0 ≤ k ∧ k ≤ 5) (w : World) :
    Calls Tryz.prog 88 #[.agg #[.int .i64 k, .int .i64 a, .int .i64 b], .int .i64 N] w fun e w' => e = .returned (.tuple #[.agg #[.int .i64 (spA N k).1, .int .i64 (spA N k).2], .agg #[.int .i64 (spB k).1, .int .i64 (spB k).2]]) ∧ Below w.heap.size w w' := by
  rcases (by omega : k = 0 ∨ k = 1 ∨ k = 2 ∨ k = 3 ∨ k = 4 ∨ k = 5) with rfl | rfl | rfl | rfl | rfl | rfl
  · go_enter Tryz.func88, Tryz.ntmps88
    go_wp2
    go_region
    go_wp2
    all_goals (refine bodyPost_ret (v := .tuple #[.agg #[.int .i64 _, .int .i64 _], .agg #[.int .i64 _, .int .i64 _]]) (by simp [results, Tryz.results88, go_sem, spA, spB]) rfl ⟨rfl, ?_⟩; repeat (first | exact Below.refl _ _ | refine Below.drew ?_ | refine Below.setCell ?_ (by first | exact Nat.le_refl _ | (simp; done) | (simp; omega)) _ | refine Below.alloc ?_ (by first | exact Nat.le_refl _ | (simp; done) | (simp; omega)) _))
  · go_enter Tryz.func88, Tryz.ntmps88
    go_wp2
    all_goals (refine bodyPost_ret (v := .tuple #[.agg #[.int .i64 _, .int .i64 _], .agg #[.int .i64 _, .int .i64 _]]) (by simp [results, Tryz.results88, go_sem, spA, spB]) rfl ⟨rfl, ?_⟩; repeat (first | exact Below.refl _ _ | refine Below.drew ?_ | refine Below.setCell ?_ (by first | exact Nat.le_refl _ | (simp; done) | (simp; omega)) _ | refine Below.alloc ?_ (by first | exact Nat.le_refl _ | (simp; done) | (simp; omega)) _))
  · go_enter Tryz.func88, Tryz.ntmps88
    go_wp2
    all_goals (refine bodyPost_ret (v := .tuple #[.agg #[.int .i64 _, .int .i64 _], .agg #[.int .i64 _, .int .i64 _]]) (by simp [results, Tryz.results88, go_sem, spA, spB]) rfl ⟨rfl, ?_⟩; repeat (first | exact Below.refl _ _ | refine Below.drew ?_ | refine Below.setCell ?_ (by first | exact Nat.le_refl _ | (simp; done) | (simp; omega)) _ | refine Below.alloc ?_ (by first | exact Nat.le_refl _ | (simp; done) | (simp; omega)) _))
  · go_enter Tryz.func88, Tryz.ntmps88
    go_wp2
    all_goals (refine bodyPost_ret (v := .tuple #[.agg #[.int .i64 _, .int .i64 _], .agg #[.int .i64 _, .int .i64 _]]) (by simp [results, Tryz.results88, go_sem, spA, spB]) rfl ⟨rfl, ?_⟩; repeat (first | exact Below.refl _ _ | refine Below.drew ?_ | refine Below.setCell ?_ (by first | exact Nat.le_refl _ | (simp; done) | (simp; omega)) _ | refine Below.alloc ?_ (by first | exact Nat.le_refl _ | (simp; done) | (simp; omega)) _))
  · go_enter Tryz.func88, Tryz.ntmps88
    go_wp2
    go_region
    go_wp2
    all_goals (refine bodyPost_ret (v := .tuple #[.agg #[.int .i64 _, .int .i64 _], .agg #[.int .i64 _, .int .i64 _]]) (by simp [results, Tryz.results88, go_sem, spA, spB]) rfl ⟨rfl, ?_⟩; repeat (first | exact Below.refl _ _ | refine Below.drew ?_ | refine Below.setCell ?_ (by first | exact Nat.le_refl _ | (simp; done) | (simp; omega)) _ | refine Below.alloc ?_ (by first | exact Nat.le_refl _ | (simp; done) | (simp; omega)) _))
  · go_enter Tryz.func88, Tryz.ntmps88
    go_wp2
    go_region
    go_wp2
    all_goals (refine bodyPost_ret (v := .tuple #[.agg #[.int .i64 _, .int .i64 _], .agg #[.int .i64 _, .int .i64 _]]) (by simp [results, Tryz.results88, go_sem, spA, spB]) rfl ⟨rfl, ?_⟩; repeat (first | exact Below.refl _ _ | refine Below.drew ?_ | refine Below.setCell ?_ (by first | exact Nat.le_refl _ | (simp; done) | (simp; omega)) _ | refine Below.alloc ?_ (by first | exact Nat.le_refl _ | (simp; done) | (simp; omega)) _))
theorem spans_no (k a b N : Int) (hk : ¬ (0 ≤ k ∧ k ≤ 5)) (w : World) :
    Calls Tryz.prog 88 #[.agg #[.int .i64 k, .int .i64 a, .int .i64 b], .int .i64 N] w fun e w' => e = .panicked [{ v := .iface 60 (.agg #[.int .i64 k, .int .i64 a, .int .i64 b]), recovered := false }] ∧ Below w.heap.size w w' := by
  have h0 : (k == 0) = false := by simp; omega
  have h1 : (k == 1) = false := by simp; omega
  have h2 : (k == 2) = false := by simp; omega
  have h3 : (k == 3) = false := by simp; omega
  have h4 : (k == 4) = false := by simp; omega
  have h5 : (k == 5) = false := by simp; omega
  go_enter Tryz.func88, Tryz.ntmps88
  go_wp2
  exact ⟨rfl, rfl, by repeat (first | exact Below.refl _ _ | refine Below.drew ?_ | refine Below.setCell ?_ (by first | exact Nat.le_refl _ | (simp; done) | (simp; omega)) _ | refine Below.alloc ?_ (by first | exact Nat.le_refl _ | (simp; done) | (simp; omega)) _)⟩
theorem has_any (lo hi n : Int) (w : World) : Calls Tryz.prog 89 #[.agg #[.int .i64 lo, .int .i64 hi], .int .i64 n] w fun e w' => e = .returned (.bool (inB n lo hi)) ∧ Below w.heap.size w w' := by
  by_cases h1 : lo ≤ n
  · have d1 : decide (lo ≤ n) = true := by simpa using h1
    go_enter Tryz.func89, Tryz.ntmps89
    go_wp2
    all_goals (go_ret; exact ⟨by simp [inB, d1], by repeat (first | exact Below.refl _ _ | refine Below.drew ?_ | refine Below.setCell ?_ (by first | exact Nat.le_refl _ | (simp; done) | (simp; omega)) _ | refine Below.alloc ?_ (by first | exact Nat.le_refl _ | (simp; done) | (simp; omega)) _)⟩)
  · have d1 : decide (lo ≤ n) = false := by simpa using h1
    go_enter Tryz.func89, Tryz.ntmps89
    go_wp2
    all_goals (go_ret; exact ⟨by simp [inB, d1], by repeat (first | exact Below.refl _ _ | refine Below.drew ?_ | refine Below.setCell ?_ (by first | exact Nat.le_refl _ | (simp; done) | (simp; omega)) _ | refine Below.alloc ?_ (by first | exact Nat.le_refl _ | (simp; done) | (simp; omega)) _)⟩)
end Go.Proofs.YtchabjmdjpfkfaaGreat
namespace Go.Proofs.YtchabjmdjpfkfaaGreat
open Go.RowKit

/-- A box of three cells. -/
structure Cv3 (B : Nat) (w : World) (a b c : Value) : Prop where
  lt : B < w.heap.size
  c0 : w.cell? ⟨B, 0, none⟩ = some a
  c1 : w.cell? ⟨B, 1, none⟩ = some b
  c2 : w.cell? ⟨B, 2, none⟩ = some c
theorem Cv3.next {B : Nat} {w w' : World} {a b c : Value} (h : Cv3 B w a b c) (hb : Below w.heap.size w w') : Cv3 B w' a b c :=
  ⟨Nat.lt_of_lt_of_le h.lt hb.size, (hb.cell (p := ⟨B, 0, none⟩) h.lt).trans h.c0, (hb.cell (p := ⟨B, 1, none⟩) h.lt).trans h.c1, (hb.cell (p := ⟨B, 2, none⟩) h.lt).trans h.c2⟩
theorem Cv3.start (w : World) (a b c : Value) (t : TypeId) : Cv3 w.heap.size (w.alloc (.cells #[a, b, c] t)) a b c := ⟨by simp, by simp, by simp, by simp⟩
structure Cv2 (B : Nat) (w : World) (a b : Value) : Prop where
  lt : B < w.heap.size
  c0 : w.cell? ⟨B, 0, none⟩ = some a
  c1 : w.cell? ⟨B, 1, none⟩ = some b
theorem Cv2.next {B : Nat} {w w' : World} {a b : Value} (h : Cv2 B w a b) (hb : Below w.heap.size w w') : Cv2 B w' a b :=
  ⟨Nat.lt_of_lt_of_le h.lt hb.size, (hb.cell (p := ⟨B, 0, none⟩) h.lt).trans h.c0, (hb.cell (p := ⟨B, 1, none⟩) h.lt).trans h.c1⟩
theorem Cv2.start (w : World) (a b : Value) (t : TypeId) : Cv2 w.heap.size (w.alloc (.cells #[a, b] t)) a b := ⟨by simp, by simp, by simp⟩
theorem raise_ok (c : Sq) (N : Int) (hN : 1 ≤ N ∧ N ≤ 36) (h0 : 0 ≤ c.x ∧ c.x ≤ 5) (h1 : (spA N c.x).1 ≤ c.y ∧ c.y ≤ (spA N c.x).2) (h2 : (spB c.x).1 ≤ c.d ∧ c.d ≤ (spB c.x).2) (w : World) : Calls Tryz.prog 72 #[.agg #[.int .i64 c.x, .int .i64 c.y, .int .i64 c.d], .int .i64 N] w fun e w' => e = .returned (.tuple #[]) ∧ Below w.heap.size w w' := by
  have C := fun w' => spans_yes c.x c.y c.d N hN h0 w'
  have C1 := fun w' => has_any (spA N c.x).1 (spA N c.x).2 c.y w'
  rw [show inB c.y (spA N c.x).1 (spA N c.x).2 = true from inB_iff.2 h1] at C1
  have C2 := fun w' => has_any (spB c.x).1 (spB c.x).2 c.d w'
  rw [show inB c.d (spB c.x).1 (spB c.x).2 = true from inB_iff.2 h2] at C2
  have K0 := Cv3.start w (.int .i64 c.x) (.int .i64 c.y) (.int .i64 c.d) 60
  have B0 : Below w.heap.size w (w.alloc (.cells #[.int .i64 c.x, .int .i64 c.y, .int .i64 c.d] 60)) := (Below.refl _ _).alloc (Nat.le_refl _) _
  go_enter Tryz.func72, Tryz.ntmps72
  go_wp2_with fail
  refine (C _).mono ?_
  rintro e w1 ⟨rfl, hb1⟩
  replace K0 := K0.next hb1
  replace B0 := B0.trans (hb1.mono B0.size)
  clear hb1
  obtain ⟨kl, k0, k1, k2⟩ := id K0
  go_wp2_with fail
  clear kl k0 k1 k2
  obtain ⟨W1, hW1⟩ : ∃ W1, W1 = (w1.alloc (.cells #[.int .i64 (spA N c.x).1, .int .i64 (spA N c.x).2] 120)).alloc (.cells #[.int .i64 (spB c.x).1, .int .i64 (spB c.x).2] 120) := ⟨_, rfl⟩
  have hb : Below w1.heap.size w1 W1 := by rw [hW1]; exact ((Below.refl _ _).alloc (Nat.le_refl _) _).alloc (by simp) _
  have P0 : Cv2 w1.heap.size W1 (.int .i64 (spA N c.x).1) (.int .i64 (spA N c.x).2) := by rw [hW1]; exact (Cv2.start _ _ _ _).next ((Below.refl _ _).alloc (Nat.le_refl _) _)
  have Q0 : Cv2 (w1.heap.size + 1) W1 (.int .i64 (spB c.x).1) (.int .i64 (spB c.x).2) := by
    have := Cv2.start (w1.alloc (.cells #[.int .i64 (spA N c.x).1, .int .i64 (spA N c.x).2] 120)) (.int .i64 (spB c.x).1) (.int .i64 (spB c.x).2) 120
    rw [World.size_alloc] at this
    rw [hW1]; exact this
  rw [← hW1]
  clear hW1
  replace K0 := K0.next hb
  replace B0 := B0.trans (hb.mono B0.size)
  clear hb
  obtain ⟨kl, k0, k1, k2⟩ := id K0
  obtain ⟨pl, p0, p1⟩ := id P0
  obtain ⟨ql, q0, q1⟩ := id Q0
  go_wp2_with fail
  clear kl k0 k1 k2 pl p0 p1 ql q0 q1
  refine (C1 _).mono ?_
  rintro e w2 ⟨rfl, hb⟩
  replace K0 := K0.next hb
  replace P0 := P0.next hb
  replace Q0 := Q0.next hb
  replace B0 := B0.trans (hb.mono B0.size)
  clear hb
  obtain ⟨kl, k0, k1, k2⟩ := id K0
  obtain ⟨pl, p0, p1⟩ := id P0
  obtain ⟨ql, q0, q1⟩ := id Q0
  go_wp2_with fail
  clear kl k0 k1 k2 pl p0 p1 ql q0 q1
  refine (C2 _).mono ?_
  rintro e w3 ⟨rfl, hb⟩
  replace K0 := K0.next hb
  replace B0 := B0.trans (hb.mono B0.size)
  clear hb
  obtain ⟨kl, k0, k1, k2⟩ := id K0
  go_wp2_with fail
  go_end0
  exact ⟨rfl, B0⟩
theorem raise_a (c : Sq) (N : Int) (hN : 1 ≤ N ∧ N ≤ 36) (h0 : 0 ≤ c.x ∧ c.x ≤ 5) (h1 : inB c.y (spA N c.x).1 (spA N c.x).2 = false) (w : World) : Calls Tryz.prog 72 #[.agg #[.int .i64 c.x, .int .i64 c.y, .int .i64 c.d], .int .i64 N] w fun e w' => e = .panicked [{ v := .iface 60 (.agg #[.int .i64 c.x, .int .i64 c.y, .int .i64 c.d]), recovered := false }] ∧ Below w.heap.size w w' := by
  have C := fun w' => spans_yes c.x c.y c.d N hN h0 w'
  have C1 := fun w' => has_any (spA N c.x).1 (spA N c.x).2 c.y w'
  rw [show inB c.y (spA N c.x).1 (spA N c.x).2 = false from h1] at C1
  have K0 := Cv3.start w (.int .i64 c.x) (.int .i64 c.y) (.int .i64 c.d) 60
  have B0 : Below w.heap.size w (w.alloc (.cells #[.int .i64 c.x, .int .i64 c.y, .int .i64 c.d] 60)) := (Below.refl _ _).alloc (Nat.le_refl _) _
  go_enter Tryz.func72, Tryz.ntmps72
  go_wp2_with fail
  refine (C _).mono ?_
  rintro e w1 ⟨rfl, hb1⟩
  replace K0 := K0.next hb1
  replace B0 := B0.trans (hb1.mono B0.size)
  clear hb1
  obtain ⟨kl, k0, k1, k2⟩ := id K0
  go_wp2_with fail
  clear kl k0 k1 k2
  obtain ⟨W1, hW1⟩ : ∃ W1, W1 = (w1.alloc (.cells #[.int .i64 (spA N c.x).1, .int .i64 (spA N c.x).2] 120)).alloc (.cells #[.int .i64 (spB c.x).1, .int .i64 (spB c.x).2] 120) := ⟨_, rfl⟩
  have hb : Below w1.heap.size w1 W1 := by rw [hW1]; exact ((Below.refl _ _).alloc (Nat.le_refl _) _).alloc (by simp) _
  have P0 : Cv2 w1.heap.size W1 (.int .i64 (spA N c.x).1) (.int .i64 (spA N c.x).2) := by rw [hW1]; exact (Cv2.start _ _ _ _).next ((Below.refl _ _).alloc (Nat.le_refl _) _)
  have Q0 : Cv2 (w1.heap.size + 1) W1 (.int .i64 (spB c.x).1) (.int .i64 (spB c.x).2) := by
    have := Cv2.start (w1.alloc (.cells #[.int .i64 (spA N c.x).1, .int .i64 (spA N c.x).2] 120)) (.int .i64 (spB c.x).1) (.int .i64 (spB c.x).2) 120
    rw [World.size_alloc] at this
    rw [hW1]; exact this
  rw [← hW1]
  clear hW1
  replace K0 := K0.next hb
  replace B0 := B0.trans (hb.mono B0.size)
  clear hb
  obtain ⟨kl, k0, k1, k2⟩ := id K0
  obtain ⟨pl, p0, p1⟩ := id P0
  obtain ⟨ql, q0, q1⟩ := id Q0
  go_wp2_with fail
  clear kl k0 k1 k2 pl p0 p1 ql q0 q1
  refine (C1 _).mono ?_
  rintro e w2 ⟨rfl, hb⟩
  replace K0 := K0.next hb
  replace P0 := P0.next hb
  replace Q0 := Q0.next hb
  replace B0 := B0.trans (hb.mono B0.size)
  clear hb
  obtain ⟨kl, k0, k1, k2⟩ := id K0
  obtain ⟨pl, p0, p1⟩ := id P0
  obtain ⟨ql, q0, q1⟩ := id Q0
  go_wp2_with fail
  exact ⟨rfl, rfl, B0⟩
theorem raise_b (c : Sq) (N : Int) (hN : 1 ≤ N ∧ N ≤ 36) (h0 : 0 ≤ c.x ∧ c.x ≤ 5) (h1 : (spA N c.x).1 ≤ c.y ∧ c.y ≤ (spA N c.x).2) (h2 : inB c.d (spB c.x).1 (spB c.x).2 = false) (w : World) : Calls Tryz.prog 72 #[.agg #[.int .i64 c.x, .int .i64 c.y, .int .i64 c.d], .int .i64 N] w fun e w' => e = .panicked [{ v := .iface 60 (.agg #[.int .i64 c.x, .int .i64 c.y, .int .i64 c.d]), recovered := false }] ∧ Below w.heap.size w w' := by
  have C := fun w' => spans_yes c.x c.y c.d N hN h0 w'
  have C1 := fun w' => has_any (spA N c.x).1 (spA N c.x).2 c.y w'
  rw [show inB c.y (spA N c.x).1 (spA N c.x).2 = true from inB_iff.2 h1] at C1
  have C2 := fun w' => has_any (spB c.x).1 (spB c.x).2 c.d w'
  rw [show inB c.d (spB c.x).1 (spB c.x).2 = false from h2] at C2
  have K0 := Cv3.start w (.int .i64 c.x) (.int .i64 c.y) (.int .i64 c.d) 60
  have B0 : Below w.heap.size w (w.alloc (.cells #[.int .i64 c.x, .int .i64 c.y, .int .i64 c.d] 60)) := (Below.refl _ _).alloc (Nat.le_refl _) _
  go_enter Tryz.func72, Tryz.ntmps72
  go_wp2_with fail
  refine (C _).mono ?_
  rintro e w1 ⟨rfl, hb1⟩
  replace K0 := K0.next hb1
  replace B0 := B0.trans (hb1.mono B0.size)
  clear hb1
  obtain ⟨kl, k0, k1, k2⟩ := id K0
  go_wp2_with fail
  clear kl k0 k1 k2
  obtain ⟨W1, hW1⟩ : ∃ W1, W1 = (w1.alloc (.cells #[.int .i64 (spA N c.x).1, .int .i64 (spA N c.x).2] 120)).alloc (.cells #[.int .i64 (spB c.x).1, .int .i64 (spB c.x).2] 120) := ⟨_, rfl⟩
  have hb : Below w1.heap.size w1 W1 := by rw [hW1]; exact ((Below.refl _ _).alloc (Nat.le_refl _) _).alloc (by simp) _
  have P0 : Cv2 w1.heap.size W1 (.int .i64 (spA N c.x).1) (.int .i64 (spA N c.x).2) := by rw [hW1]; exact (Cv2.start _ _ _ _).next ((Below.refl _ _).alloc (Nat.le_refl _) _)
  have Q0 : Cv2 (w1.heap.size + 1) W1 (.int .i64 (spB c.x).1) (.int .i64 (spB c.x).2) := by
    have := Cv2.start (w1.alloc (.cells #[.int .i64 (spA N c.x).1, .int .i64 (spA N c.x).2] 120)) (.int .i64 (spB c.x).1) (.int .i64 (spB c.x).2) 120
    rw [World.size_alloc] at this
    rw [hW1]; exact this
  rw [← hW1]
  clear hW1
  replace K0 := K0.next hb
  replace B0 := B0.trans (hb.mono B0.size)
  clear hb
  obtain ⟨kl, k0, k1, k2⟩ := id K0
  obtain ⟨pl, p0, p1⟩ := id P0
  obtain ⟨ql, q0, q1⟩ := id Q0
  go_wp2_with fail
  clear kl k0 k1 k2 pl p0 p1 ql q0 q1
  refine (C1 _).mono ?_
  rintro e w2 ⟨rfl, hb⟩
  replace K0 := K0.next hb
  replace P0 := P0.next hb
  replace Q0 := Q0.next hb
  replace B0 := B0.trans (hb.mono B0.size)
  clear hb
  obtain ⟨kl, k0, k1, k2⟩ := id K0
  obtain ⟨pl, p0, p1⟩ := id P0
  obtain ⟨ql, q0, q1⟩ := id Q0
  go_wp2_with fail
  clear kl k0 k1 k2 pl p0 p1 ql q0 q1
  refine (C2 _).mono ?_
  rintro e w3 ⟨rfl, hb⟩
  replace K0 := K0.next hb
  replace B0 := B0.trans (hb.mono B0.size)
  clear hb
  obtain ⟨kl, k0, k1, k2⟩ := id K0
  go_wp2_with fail
  exact ⟨rfl, rfl, B0⟩
theorem raise_k (c : Sq) (N : Int) (hN : 1 ≤ N ∧ N ≤ 36) (hk : ¬ (0 ≤ c.x ∧ c.x ≤ 5)) (w : World) : Calls Tryz.prog 72 #[.agg #[.int .i64 c.x, .int .i64 c.y, .int .i64 c.d], .int .i64 N] w fun e w' => e = .panicked [{ v := .iface 60 (.agg #[.int .i64 c.x, .int .i64 c.y, .int .i64 c.d]), recovered := false }] ∧ Below w.heap.size w w' := by
  have C := fun w' => spans_no c.x c.y c.d N hk w'
  have K0 := Cv3.start w (.int .i64 c.x) (.int .i64 c.y) (.int .i64 c.d) 60
  have B0 : Below w.heap.size w (w.alloc (.cells #[.int .i64 c.x, .int .i64 c.y, .int .i64 c.d] 60)) := (Below.refl _ _).alloc (Nat.le_refl _) _
  go_enter Tryz.func72, Tryz.ntmps72
  go_wp2_with fail
  refine (C _).mono ?_
  rintro e w1 ⟨rfl, hb1⟩
  replace K0 := K0.next hb1
  replace B0 := B0.trans (hb1.mono B0.size)
  clear hb1
  obtain ⟨kl, k0, k1, k2⟩ := id K0
  go_wp2_with fail
  exact ⟨rfl, rfl, B0⟩
theorem raise_yes (c : Sq) (N : Int) (hN : 1 ≤ N ∧ N ≤ 36) (h : ClueOk N c) (w : World) : Calls Tryz.prog 72 #[.agg #[.int .i64 c.x, .int .i64 c.y, .int .i64 c.d], .int .i64 N] w fun e w' => e = .returned (.tuple #[]) ∧ Below w.heap.size w w' := by
  obtain ⟨h0, h1, h2⟩ := clueOk_iff.1 h
  exact raise_ok c N hN h0 h1 h2 w
theorem raise_no (c : Sq) (N : Int) (hN : 1 ≤ N ∧ N ≤ 36) (h : ¬ ClueOk N c) (w : World) : Calls Tryz.prog 72 #[.agg #[.int .i64 c.x, .int .i64 c.y, .int .i64 c.d], .int .i64 N] w fun e w' => e = .panicked [{ v := .iface 60 (.agg #[.int .i64 c.x, .int .i64 c.y, .int .i64 c.d]), recovered := false }] ∧ Below w.heap.size w w' := by
  by_cases h0 : 0 ≤ c.x ∧ c.x ≤ 5
  · cases h1 : inB c.y (spA N c.x).1 (spA N c.x).2 with
    | false => exact raise_a c N hN h0 h1 w
    | true =>
      cases h2 : inB c.d (spB c.x).1 (spB c.x).2 with
      | false => exact raise_b c N hN h0 (inB_iff.1 h1) h2 w
      | true => exact absurd (clueOk_iff.2 ⟨h0, inB_iff.1 h1, inB_iff.1 h2⟩) h
  · exact raise_k c N hN h0 w
theorem assert_clue (x y d : Int) (w : World) : (Instr.typeAssert (.iface 60 (.agg #[.int .i64 x, .int .i64 y, .int .i64 d])) 20 60 true).run Tryz.prog w = .ok (.tuple #[.agg #[.int .i64 x, .int .i64 y, .int .i64 d], .bool true]) w := by kernel_rfl
theorem assert_nil (w : World) : (Instr.typeAssert .nilIface 20 60 true).run Tryz.prog w = .ok (.tuple #[.agg #[.int .i64 0, .int .i64 0, .int .i64 0], .bool false]) w := by kernel_rfl
theorem not_run (b : Bool) (w : World) : (Op.unary .not (.bool b)).run Tryz.prog w = .ok (.bool (!b)) w := rfl
set_option maxRecDepth 100000 in
theorem door_raised (p : Addr) (s : Sq) (older : List PanicEntry) (w : World) (x : Value) (hc : w.cell? p = some x) (hz : w.frozen? p = false) (hl : p.block < w.heap.size) :
    CallsD Tryz.prog 71 #[.pointer (some p)] (.panicking ({ v := .iface 60 (.agg #[.int .i64 s.x, .int .i64 s.y, .int .i64 s.d]), recovered := false } :: older)) w fun e u' w' =>
      e = .returned (.tuple #[]) ∧ u' = .panicking ({ v := .iface 60 (.agg #[.int .i64 s.x, .int .i64 s.y, .int .i64 s.d]), recovered := true } :: older) ∧ ∃ o, w' = (w.alloc o).setCell p (.bool false) := by
  have A1 := assert_clue s.x s.y s.d
  have hcA : ∀ o, (w.alloc o).cell? p = some x := fun o => (((Below.refl w.heap.size w).alloc (Nat.le_refl _) o).cell hl).trans hc
  have hzA : ∀ o, (w.alloc o).frozen? p = false := fun o => (((Below.refl w.heap.size w).alloc (Nat.le_refl _) o).frozen hl).trans hz
  refine callsD_of_wpS Tryz.func71 rfl fun c₀ cs hu => ?_
  apply wpS_seq
  apply wpS_region
  simp [wpOpsS, go_sem, recoverD, hu, Tryz.ntmps71, Exit.thenS, A1]
  apply wpS_region
  simp [wpOpsS, go_sem, hcA, hzA, not_run, bodyPostS, results, Tryz.results71]
  exact ⟨_, rfl⟩
set_option maxRecDepth 100000 in
theorem door_idle (p : Addr) (w : World) (x : Value) (hc : w.cell? p = some x) (hz : w.frozen? p = false) (hl : p.block < w.heap.size) :
    CallsD Tryz.prog 71 #[.pointer (some p)] .returning w fun e u' w' => e = .returned (.tuple #[]) ∧ u' = .returning ∧ ∃ o, w' = (w.alloc o).setCell p (.bool true) := by
  have A1 := assert_nil
  have hcA : ∀ o, (w.alloc o).cell? p = some x := fun o => (((Below.refl w.heap.size w).alloc (Nat.le_refl _) o).cell hl).trans hc
  have hzA : ∀ o, (w.alloc o).frozen? p = false := fun o => (((Below.refl w.heap.size w).alloc (Nat.le_refl _) o).frozen hl).trans hz
  refine callsD_of_wpS Tryz.func71 rfl fun c₀ cs hu => ?_
  apply wpS_seq
  apply wpS_region
  simp [wpOpsS, go_sem, recoverD, hu, Tryz.ntmps71, Exit.thenS, A1]
  apply wpS_region
  simp [wpOpsS, go_sem, hcA, hzA, not_run, bodyPostS, results, Tryz.results71, hu]
  exact ⟨c₀.mode, rfl, hu, _, rfl⟩
set_option maxRecDepth 100000 in
set_option maxHeartbeats 4000000 in
theorem areClues_any (N : Int) (hN : 1 ≤ N ∧ N ≤ 36) (A : Option Addr) (n c : Nat) (L : List Sq) (w : World) (hl : L.length = n) (hn : n ≤ 1048576) (hL : SqsAt w w.heap.size A L) :
    Calls Tryz.prog 59 #[.int .i64 N, .slice A n c] w (RetB w (∀ s ∈ L, ClueOk N s)) := by
  have hmf : ∀ (fn : Fn) (first cap : Array Value) (w : World), (Instr.makeFunc fn first cap).run Tryz.prog w = .ok (.func fn first cap) w := fun _ _ _ _ => rfl
  have hb0 : Below w.heap.size w (w.alloc (.cells #[.bool false] 4)) := (Below.refl _ _).alloc (Nat.le_refl _) _
  go_enter_defers Tryz.func59, Tryz.ntmps59
  go_wp2_with fail
  obtain ⟨W0, hW0⟩ : ∃ W0, W0 = w.alloc (.cells #[.bool false] 4) := ⟨_, rfl⟩
  rw [← hW0] at hb0 ⊢
  have y0 : w.heap.size < W0.heap.size := by rw [hW0]; simp
  have y1 : W0.cell? ⟨w.heap.size, 0, none⟩ = some (.bool false) := by rw [hW0]; simp
  have y2 : W0.frozen? ⟨w.heap.size, 0, none⟩ = false := by rw [hW0]; simp [go_sem]
  clear hW0
  go_loopw [10] (fun i wr => ∃ k : Nat, k ≤ n ∧ i = .int .i64 k ∧ (∀ j s, j < k → L[j]? = some s → ClueOk N s) ∧ Below w.heap.size w wr ∧ w.heap.size < wr.heap.size ∧ wr.cell? ⟨w.heap.size, 0, none⟩ = some (.bool false) ∧ wr.frozen? ⟨w.heap.size, 0, none⟩ = false) (fun i _ => n - (intOf i).toNat)
  case atStart => exact ⟨0, Nat.zero_le _, rfl, fun j s h => absurd h (Nat.not_lt_zero _), hb0, y0, y1, y2⟩
  case round =>
    obtain ⟨k, hk, rfl, hpre, hbr, z0, z1, z2⟩ := hrel
    clear hb0 y0 y1 y2
    by_cases hlt : k < n
    · obtain ⟨s, hs⟩ : ∃ s, L[k]? = some s := ⟨_, List.getElem?_eq_getElem (by rw [hl]; exact hlt)⟩
      obtain ⟨b, off, rfl, hb, c0, c1, c2⟩ := hL k s hs
      have HP := Lib.hid hpre
      have HS := Lib.hid hs
      have HL := Lib.hid hl
      have c0' := (hbr.cell (p := ⟨b, off + k * 3, none⟩) hb).trans c0
      have c1' := (hbr.cell (p := ⟨b, off + k * 3 + 1, none⟩) hb).trans c1
      have c2' := (hbr.cell (p := ⟨b, off + k * 3 + 2, none⟩) hb).trans c2
      clear c0 c1 c2 hL hpre hs hl
      have k0 : (0 : Int) ≤ (k : Int) := by omega
      have k1 : (k : Int) < (n : Int) := by omega
      by_cases hok : ClueOk N s
      · go_wp2_with fail
        obtain ⟨W1, hW1⟩ : ∃ W1, W1 = wr.alloc (.cells #[.int .i64 s.x, .int .i64 s.y, .int .i64 s.d] 60) := ⟨_, rfl⟩
        have hb1 : Below wr.heap.size wr W1 := by rw [hW1]; exact (Below.refl _ _).alloc (Nat.le_refl _) _
        rw [← hW1]
        clear hW1
        refine (raise_yes s N hN hok W1).mono ?_
        rintro e w2 ⟨rfl, hb2⟩
        have hb3 : Below wr.heap.size wr w2 := hb1.trans (hb2.mono hb1.size)
        clear c0' c1' c2'
        go_wp2_with fail
        go_roundw
        case rel =>
          refine ⟨k + 1, by omega, by go_num, fun j t hj ht => ?_, hbr.trans (hb3.mono hbr.size), Nat.lt_of_lt_of_le z0 hb3.size, (hb3.cell (p := ⟨w.heap.size, 0, none⟩) z0).trans z1, (hb3.frozen (p := ⟨w.heap.size, 0, none⟩) z0).trans z2⟩
          rcases (by omega : j < k ∨ j = k) with h | rfl
          · exact HP.out j t h ht
          · rw [HS.out] at ht; cases ht; exact hok
        case measure => simp [intOf]; omega
      · go_wp2_with fail
        obtain ⟨W1, hW1⟩ : ∃ W1, W1 = wr.alloc (.cells #[.int .i64 s.x, .int .i64 s.y, .int .i64 s.d] 60) := ⟨_, rfl⟩
        have hb1 : Below wr.heap.size wr W1 := by rw [hW1]; exact (Below.refl _ _).alloc (Nat.le_refl _) _
        rw [← hW1]
        clear hW1
        refine (raise_no s N hN hok W1).mono ?_
        rintro e w2 ⟨rfl, hb2⟩
        have hb3 : Below wr.heap.size wr w2 := hb1.trans (hb2.mono hb1.size)
        clear c0' c1' c2'
        have z0' := Nat.lt_of_lt_of_le z0 hb3.size
        have z1' := (hb3.cell (p := ⟨w.heap.size, 0, none⟩) z0).trans z1
        have z2' := (hb3.frozen (p := ⟨w.heap.size, 0, none⟩) z0).trans z2
        go_wp2_with fail
        refine leaves_cons (f := 71) (args := #[.pointer (some ⟨w.heap.size, 0, none⟩)]) (by simp) (by simp [go_sem]) ?_
        refine (door_raised ⟨w.heap.size, 0, none⟩ s [] w2 _ z1' z2' z0').mono ?_
        rintro e u' w'' ⟨rfl, rfl, o, rfl⟩
        have zz : (w2.alloc o).cell? ⟨w.heap.size, 0, none⟩ = some (.bool false) := (((Below.refl w2.heap.size w2).alloc (Nat.le_refl _) o).cell (p := ⟨w.heap.size, 0, none⟩) z0').trans z1'
        have zq : ((w2.alloc o).setCell ⟨w.heap.size, 0, none⟩ (.bool false)).cell? ⟨w.heap.size, 0, none⟩ = some (.bool false) := by simp [go_sem, zz]
        have hbz : Below w.heap.size w ((w2.alloc o).setCell ⟨w.heap.size, 0, none⟩ (.bool false)) := ((hbr.trans (hb3.mono hbr.size)).alloc (Nat.le_of_lt z0') o).setCell (p := ⟨w.heap.size, 0, none⟩) (Nat.le_refl _) _
        simp [Leaves, settle, results, Tryz.results59, go_sem, zq]
        exact RetB.mk ⟨fun h => (by cases h), fun h => absurd (h s (List.mem_of_getElem? HS.out)) hok⟩ hbz
    · obtain rfl : k = n := by omega
      have HP := Lib.hid hpre
      clear hpre hL
      have z3 : (wr.setCell ⟨w.heap.size, 0, none⟩ (.bool true)).cell? ⟨w.heap.size, 0, none⟩ = some (.bool true) := by simp [go_sem, z1]
      have z4 : (wr.setCell ⟨w.heap.size, 0, none⟩ (.bool true)).frozen? ⟨w.heap.size, 0, none⟩ = false := by simp [go_sem, z2]
      have z5 : w.heap.size < (wr.setCell ⟨w.heap.size, 0, none⟩ (.bool true)).heap.size := by simpa using z0
      go_wp2_with fail
      refine leaves_cons (f := 71) (args := #[.pointer (some ⟨w.heap.size, 0, none⟩)]) (by simp) (by simp [go_sem]) ?_
      refine (door_idle ⟨w.heap.size, 0, none⟩ _ _ z3 z4 z5).mono ?_
      rintro e u' w'' ⟨rfl, rfl, o, rfl⟩
      have zz : ((wr.setCell ⟨w.heap.size, 0, none⟩ (.bool true)).alloc o).cell? ⟨w.heap.size, 0, none⟩ = some (.bool true) := (((Below.refl _ _).alloc (Nat.le_refl _) o).cell (p := ⟨w.heap.size, 0, none⟩) z5).trans z3
      have zq : (((wr.setCell ⟨w.heap.size, 0, none⟩ (.bool true)).alloc o).setCell ⟨w.heap.size, 0, none⟩ (.bool true)).cell? ⟨w.heap.size, 0, none⟩ = some (.bool true) := World.cell?_setCell_same (h := zz) ..
      have hbz : Below w.heap.size w (((wr.setCell ⟨w.heap.size, 0, none⟩ (.bool true)).alloc o).setCell ⟨w.heap.size, 0, none⟩ (.bool true)) := ((hbr.setCell (p := ⟨w.heap.size, 0, none⟩) (Nat.le_refl _) _).alloc (Nat.le_of_lt z5) o).setCell (p := ⟨w.heap.size, 0, none⟩) (Nat.le_refl _) _
      simp only [Leaves, settle]
      refine ⟨.bool true, by simp [results, Tryz.results59, go_sem, zq], RetB.mk ⟨fun _ s hs => ?_, fun _ => rfl⟩ hbz⟩
      obtain ⟨j, hj⟩ := List.getElem?_of_mem hs
      have hj' := (List.getElem?_eq_some_iff.1 hj).1
      exact HP.out j s (by omega) hj
end Go.Proofs.YtchabjmdjpfkfaaGreat
namespace Go.Proofs.YtchabjmdjpfkfaaGreat
open Go.RowKit

theorem cls_of_own {w : World} {base : Nat} {A : Option Addr} {n c : Nat} {L : List Sq} (h : w.ownsRow base 60 3 (.slice A n c) n (flat L)) : SqsAt w w.heap.size A L := by
  intro i s hs
  have hl : n = L.length := by have := h.1; rw [flat_len] at this; omega
  have hi : i < L.length := by
    rcases Nat.lt_or_ge i L.length with h' | h'
    · exact h'
    · rw [List.getElem?_eq_none h'] at hs; cases hs
  have h2 := h.2
  rcases h2 with ⟨hn, hn0⟩ | ⟨g, cap, cur, he, _⟩
  · omega
  · cases he
    have f := flat_get L i s hs
    refine ⟨g, 0, rfl, (own_lt h).2, ?_⟩
    simp only [Nat.zero_add]
    exact ⟨(h.cellAt (i * 3) (by omega)).trans f.1, (h.cellAt (i * 3 + 1) (by omega)).trans f.2.1, (h.cellAt (i * 3 + 2) (by omega)).trans f.2.2⟩
theorem eqClue_same (x y d : Int) (w : World) :
    Calls Tryz.prog 48 #[.agg #[.int .i64 x, .int .i64 y, .int .i64 d], .agg #[.int .i64 x, .int .i64 y, .int .i64 d]] w fun e w' =>
      e = .returned (.bool true) ∧ Below w.heap.size w w' := by
  go_enter Tryz.func48, Tryz.ntmps48
  go_wp2
  go_ret
  exact ⟨rfl, ((Below.refl _ _).alloc (Nat.le_refl _) _).alloc (by simp) _⟩
theorem toClue_any (x y d : Int) (w : World) :
    Calls Tryz.prog 43 #[.agg #[.int .i64 x, .int .i64 y, .int .i64 d]] w fun e w' =>
      e = .returned (.agg #[.int .i64 x, .int .i64 y, .int .i64 d]) ∧ Below w.heap.size w w' := by
  go_enter Tryz.func43, Tryz.ntmps43
  go_wp2
  refine bodyPost_ret (v := .agg #[.int .i64 x, .int .i64 y, .int .i64 d]) (by simp [results, Tryz.results43, go_sem]) rfl ⟨rfl, ?_⟩
  exact (((Below.refl _ _).alloc (Nat.le_refl _) _).alloc (by simp) _).alloc (by simp; omega) _
theorem infoCl : (Tryz.prog.info? 60).map (fun i => (i.zero, i.size, i.bytes)) = some (some (.agg #[.int .i64 0, .int .i64 0, .int .i64 0]), 3, 24) := by kernel_rfl
/-- A slice of squares of the call's own that reads as L. -/
def OwnCls (w w' : World) (L : List Sq) (e : Ending) : Prop := ∃ g, e = .returned (.slice (some ⟨g, 0, none⟩) L.length L.length) ∧ Below w.heap.size w w' ∧ w'.ownsRow w.heap.size 60 3 (.slice (some ⟨g, 0, none⟩) L.length L.length) L.length (flat L)
set_option maxRecDepth 100000 in
theorem toClueS_any (A : Option Addr) (n c : Nat) (L : List Sq) (w : World) (hl : L.length = n) (hn : n ≤ c) (hreach : n ≤ 1048576) (hL : SqsAt w w.heap.size A L) :
    Calls Tryz.prog 22 #[.slice A n c] w fun e w' => OwnCls w w' L e := by
  obtain ⟨i0, hi, hz0, hz1, hz2⟩ := info_parts infoCl
  go_enter Tryz.func22, Tryz.ntmps22
  go_wp2_with (at_make; refine wpList_make_full _ rfl _ _ 29 rfl w.heap.size 60 i0 (.agg #[.int .i64 0, .int .i64 0, .int .i64 0]) 3 Tryz.underlying29 hi hz0 hz1 .i64 .i64 n n n rfl rfl rfl rfl (by rw [hz2]; omega) (by unfold maxLen; omega) (Nat.le_refl _) ?_; intro w1 hown hgrow)
  have hb1 : Below w.heap.size w w1 := (Below.refl _ w).grown hgrow (Nat.le_refl _) (by simp)
  clear hgrow
  obtain ⟨g, hg⟩ : ∃ g, g = w.heap.size := ⟨_, rfl⟩
  rw [← hg] at hown hb1 ⊢
  have hBg := Lib.hid hg
  clear hg
  go_loopw [4] (fun i wr => ∃ k : Nat, k ≤ n ∧ i = .int .i64 k ∧ ∃ xs, wr.ownsRow g 60 3 (.slice (some ⟨g, 0, none⟩) n n) n xs ∧ xs.take (k * 3) = flat (L.take k) ∧ Below g w wr) (fun i _ => n - (intOf i).toNat)
  case atStart => exact ⟨0, Nat.zero_le _, rfl, _, hown, by simp [flat], hb1⟩
  case round =>
    obtain ⟨k, hk, rfl, xs, hown1, htake, hbr⟩ := hrel
    by_cases hlt : k < n
    · have HL := Lib.hid hl
      have HT := Lib.hid htake
      clear hl htake hown hb1 w1
      obtain ⟨s, hs⟩ : ∃ s, L[k]? = some s := ⟨_, List.getElem?_eq_getElem (by rw [HL.out]; exact hlt)⟩
      obtain ⟨b, off, rfl, hb, c0, c1, c2⟩ := hL k s hs
      rw [← hBg.out] at hb
      have HS := Lib.hid hs
      clear hs hL
      have c0' := (hbr.cell (p := ⟨b, off + k * 3, none⟩) hb).trans c0
      have c1' := (hbr.cell (p := ⟨b, off + k * 3 + 1, none⟩) hb).trans c1
      have c2' := (hbr.cell (p := ⟨b, off + k * 3 + 2, none⟩) hb).trans c2
      clear c0 c1 c2
      go_wp2_with fail
      refine (toClue_any _ _ _ _).mono ?_
      rintro e w2 ⟨rfl, hb2⟩
      have hown2 := own_keep hown1 hb2
      obtain ⟨v0, e0⟩ := own_some hown2 (j := k * 3) (by omega)
      obtain ⟨v1, e1⟩ := own_some hown2 (j := k * 3 + 1) (by omega)
      obtain ⟨v2, e2⟩ := own_some hown2 (j := k * 3 + 2) (by omega)
      have f0 := hown2.frozenAt (k * 3)
      have f1 := hown2.frozenAt (k * 3 + 1)
      have f2 := hown2.frozenAt (k * 3 + 2)
      go_wp2_with fail
      have hx := hown1.1
      have R := ((((hown2.stored (k * 3) (.int .i64 s.x)).1).stored (k * 3 + 1) (.int .i64 s.y)).1.stored (k * 3 + 2) (.int .i64 s.d)).1
      have hgl := own_lt hown1
      have hB := (((hbr.trans (hb2.mono (by omega))).setCell (p := ⟨g, k * 3, none⟩) (Nat.le_refl _) (.int .i64 s.x)).setCell (p := ⟨g, k * 3 + 1, none⟩) (Nat.le_refl _) (.int .i64 s.y)).setCell (p := ⟨g, k * 3 + 2, none⟩) (Nat.le_refl _) (.int .i64 s.d)
      go_roundw
      case rel => exact ⟨k + 1, by omega, by go_num, _, R, by rw [take_set3 _ _ _ _ _ (by omega), HT.out, flat_take_succ L k s HS.out], hB⟩
      case measure => simp [intOf]; omega
    · obtain rfl : k = n := by omega
      subst hl
      have hx := hown1.1
      rw [List.take_of_length_le (by omega), List.take_of_length_le (Nat.le_refl _)] at htake
      subst htake
      go_wp2_with fail
      go_ret
      exact ⟨g, rfl, by rw [← hBg.out]; exact hbr, by rw [← hBg.out]; exact hown1⟩
theorem eqClueS_same (A A' : Option Addr) (n c c' : Nat) (L : List Sq) (w : World) (hl : L.length = n) (hn : n ≤ 1048576) (_hc : n ≤ c) (_hc' : n ≤ c') (hL : SqsAt w w.heap.size A L) (hL' : SqsAt w w.heap.size A' L) :
    Calls Tryz.prog 25 #[.slice A n c, .slice A' n c'] w fun e w' => e = .returned (.bool true) ∧ Below w.heap.size w w' := by
  go_enter Tryz.func25, Tryz.ntmps25
  go_wp2_with fail
  obtain ⟨g, hg⟩ : ∃ g, g = w.heap.size := ⟨_, rfl⟩
  rw [← hg] at hL hL'
  have hBg := Lib.hid hg
  clear hg
  go_loopw [5] (fun i wr => ∃ k : Nat, k ≤ n ∧ i = .int .i64 k ∧ Below g w wr) (fun i _ => n - (intOf i).toNat)
  case atStart => exact ⟨0, Nat.zero_le _, rfl, Below.refl _ _⟩
  case round =>
    obtain ⟨k, hk, rfl, hbr⟩ := hrel
    by_cases hlt : k < n
    · obtain ⟨s, hs⟩ : ∃ s, L[k]? = some s := ⟨_, List.getElem?_eq_getElem (by rw [hl]; exact hlt)⟩
      have hLw := hL.below hbr
      have hLw' := hL'.below hbr
      clear hL hL'
      obtain ⟨b, off, rfl, hb, c0, c1, c2⟩ := hLw k s hs
      obtain ⟨b', off', rfl, hb', d0, d1, d2⟩ := hLw' k s hs
      clear hLw hLw' hs hl
      have hsz : g ≤ wr.heap.size := by have := hbr.size; rw [hBg.out]; omega
      go_wp2_with fail
      have C0 : ∀ u : Later g wr, u.val.cell? ⟨b, off + k * 3, none⟩ = some (.int .i64 s.x) := fun u => (u.ok.cell (p := ⟨b, _, none⟩) hb).trans c0
      have C1 : ∀ u : Later g wr, u.val.cell? ⟨b, off + k * 3 + 1, none⟩ = some (.int .i64 s.y) := fun u => (u.ok.cell (p := ⟨b, _, none⟩) hb).trans c1
      have C2 : ∀ u : Later g wr, u.val.cell? ⟨b, off + k * 3 + 2, none⟩ = some (.int .i64 s.d) := fun u => (u.ok.cell (p := ⟨b, _, none⟩) hb).trans c2
      have D0 : ∀ u : Later g wr, u.val.cell? ⟨b', off' + k * 3, none⟩ = some (.int .i64 s.x) := fun u => (u.ok.cell (p := ⟨b', _, none⟩) hb').trans d0
      have D1 : ∀ u : Later g wr, u.val.cell? ⟨b', off' + k * 3 + 1, none⟩ = some (.int .i64 s.y) := fun u => (u.ok.cell (p := ⟨b', _, none⟩) hb').trans d1
      have D2 : ∀ u : Later g wr, u.val.cell? ⟨b', off' + k * 3 + 2, none⟩ = some (.int .i64 s.d) := fun u => (u.ok.cell (p := ⟨b', _, none⟩) hb').trans d2
      have k0 : (0 : Int) ≤ (k : Int) := by omega
      have k1 : (k : Int) < (n : Int) := by omega
      refine wp_region_sub g (by kernel_rfl) (by kernel_rfl) ?_
      repeat (first | go_big_quiet_step ((go_at_call 48; exact sub_of _ hsz (eqClue_same s.x s.y s.d _))) | quiet_step ((go_at_call 48; exact sub_of _ hsz (eqClue_same s.x s.y s.d _))))
      refine wpQuiet_nil ?_
      rintro _ ⟨⟨w2, hb2⟩, rfl⟩
      go_wp2_with fail
      go_roundw
      case rel => exact ⟨k + 1, by omega, by go_num, hbr.trans hb2⟩
      case measure => simp [intOf]; omega
    · go_wp2_with fail
      go_ret
      exact ⟨rfl, by rw [← hBg.out]; exact hbr⟩
/-- A cut of the call's own that reads as W, H, L. -/
def OwnPuzzle (w w' : World) (W H : Int) (L : List Sq) (e : Ending) : Prop := ∃ g, e = .returned (.agg #[.int .i64 W, .int .i64 H, .slice (some ⟨g, 0, none⟩) L.length L.length]) ∧ Below w.heap.size w w' ∧ w'.ownsRow w.heap.size 60 3 (.slice (some ⟨g, 0, none⟩) L.length L.length) L.length (flat L)
theorem szClueS_ok (A : Option Addr) (n c : Nat) (left : Int) (w : World) (h1 : left ≤ 1048576) (h : (n : Int) ≤ left) :
    Calls Tryz.prog 17 #[.slice A n c, .int .i64 left] w fun e w' => e = .returned (.int .i64 (left - n)) ∧ w = w' := by
  have h' : ¬ left - n < 0 := by omega
  go_enter Tryz.func17, Tryz.ntmps17
  go_wp2
  go_ret
  exact ⟨rfl, rfl⟩
theorem szClueS_over (A : Option Addr) (n c : Nat) (left : Int) (w : World) (h0 : 0 ≤ left) (h : left < n) (hn : n ≤ 9223372036854775807) :
    Calls Tryz.prog 17 #[.slice A n c, .int .i64 left] w fun e w' => e = .returned (.int .i64 (-1)) ∧ w = w' := by
  have h' : left - n < 0 := by omega
  go_enter Tryz.func17, Tryz.ntmps17
  go_wp2
  go_ret
  exact ⟨rfl, rfl⟩
theorem toPuzzle_any (W H : Int) (A : Option Addr) (n c : Nat) (L : List Sq) (w : World) (hl : L.length = n) (hn : n ≤ c) (hreach : n ≤ 1048576) (hL : SqsAt w w.heap.size A L) :
    Calls Tryz.prog 7 #[.agg #[.int .i64 W, .int .i64 H, .slice A n c]] w fun e w' => OwnPuzzle w w' W H L e := by
  subst hl
  go_enter Tryz.func7, Tryz.ntmps7
  go_wp2_with fail
  have hb0 : Below w.heap.size w (((w.alloc (.cells #[.int .i64 W, .int .i64 H, .slice A L.length c] 24)).alloc (.cells #[.int .i64 0, .int .i64 0, .slice none 0 0] 31)).alloc (.cells #[.int .i64 W, .int .i64 H, .slice none 0 0] 31)) :=
    (((Below.refl _ _).alloc (Nat.le_refl _) _).alloc (by simp) _).alloc (by simp; omega) _
  refine (toClueS_any A _ c L _ rfl hn hreach ((hL.below hb0).mono hb0.size)).mono ?_
  rintro e w3 ⟨g, rfl, hb, hown⟩
  have hb1 := hb0.trans (hb.mono hb0.size)
  obtain ⟨hc, hf⟩ := bcell hb
  have hz := hb.size
  simp only [World.size_alloc] at hc hf hz hown
  have hgl := own_lt hown
  go_wp2_with fail
  refine bodyPost_ret (v := .agg #[.int .i64 W, .int .i64 H, .slice (some ⟨g, 0, none⟩) L.length L.length]) (by simp [results, Tryz.results7, go_sem, hc]) rfl ⟨g, rfl, ?_, ?_⟩
  · exact (((hb1.setCell (by simp; omega) _).setCell (by simp) _).setCell (by simp) _).setCell (by simp) _
  · refine own_base ?_ (show w.heap.size ≤ w.heap.size + 1 + 1 + 1 by omega)
    exact ownsRow_setCell_below (ownsRow_setCell_below (ownsRow_setCell_below (ownsRow_setCell_below hown (by simp) _) (by simp <;> omega) _) (by simp <;> omega) _) (by simp <;> omega) _
theorem eqPuzzle_same (W H : Int) (A A' : Option Addr) (n c c' : Nat) (L : List Sq) (w : World) (hl : L.length = n) (hn : n ≤ 1048576) (hc : n ≤ c) (hc' : n ≤ c') (hL : SqsAt w w.heap.size A L) (hL' : SqsAt w w.heap.size A' L) :
    Calls Tryz.prog 10 #[.agg #[.int .i64 W, .int .i64 H, .slice A n c], .agg #[.int .i64 W, .int .i64 H, .slice A' n c']] w fun e w' => e = .returned (.bool true) ∧ Below w.heap.size w w' := by
  subst hl
  go_enter Tryz.func10, Tryz.ntmps10
  go_wp2_with fail
  have hb0 : Below w.heap.size w ((w.alloc (.cells #[.int .i64 W, .int .i64 H, .slice A L.length c] 31)).alloc (.cells #[.int .i64 W, .int .i64 H, .slice A' L.length c'] 31)) :=
    ((Below.refl _ _).alloc (Nat.le_refl _) _).alloc (by simp) _
  refine (eqClueS_same A A' _ c c' L _ rfl hn hc hc' ((hL.below hb0).mono hb0.size) ((hL'.below hb0).mono hb0.size)).mono ?_
  rintro e w3 ⟨rfl, hb⟩
  have hb1 := hb0.trans (hb.mono hb0.size)
  go_wp2_with fail
  go_ret
  exact ⟨rfl, hb1⟩
theorem markClueS_any (A : Option Addr) (n c base : Nat) (xs : List Value) (k0 : Int) (w : World) (hn : n ≤ 1048576) (h0 : 0 ≤ k0) (h1 : k0 ≤ 1000000000) (hown : w.ownsRow base 60 3 (.slice A n c) n xs) :
    Calls Tryz.prog 26 #[.slice A n c, .int .i64 k0] w fun e w' => e = .returned (.int .i64 (k0 + 3 * n)) ∧ w'.ownsRow base 60 3 (.slice A n c) n (flat (upS k0 n)) ∧ w.grownBy w' (Value.slice A n c).ownBlock := by
  go_enter Tryz.func26, Tryz.ntmps26
  go_wp2_with fail
  go_loopw [1, 5] (fun q i wr => ∃ k : Nat, k ≤ n ∧ i = .int .i64 k ∧ q = .int .i64 (k0 + 3 * k) ∧ w.grownBy wr (Value.slice A n c).ownBlock ∧ ∃ ys, wr.ownsRow base 60 3 (.slice A n c) n ys ∧ ys.take (k * 3) = flat (upS k0 k)) (fun _ i _ => n - (intOf i).toNat)
  case atStart => exact ⟨0, Nat.zero_le _, rfl, by simp, grown_refl _ _, xs, hown, by simp [flat, upS]⟩
  case round =>
    obtain ⟨k, hk, rfl, rfl, hgr, ys, hown1, htake⟩ := hrel
    by_cases hlt : k < n
    · obtain ⟨g, rfl⟩ := own_form hown1 (by omega)
      obtain ⟨v0, e0⟩ := own_some hown1 (j := k * 3) (by omega)
      obtain ⟨v1, e1⟩ := own_some hown1 (j := k * 3 + 1) (by omega)
      obtain ⟨v2, e2⟩ := own_some hown1 (j := k * 3 + 2) (by omega)
      have f0 := hown1.frozenAt (k * 3)
      have f1 := hown1.frozenAt (k * 3 + 1)
      have f2 := hown1.frozenAt (k * 3 + 2)
      have R0 := hown1.stored (k * 3) (.int .i64 (k0 + 3 * k))
      have R1 := R0.1.stored (k * 3 + 1) (.int .i64 (k0 + 3 * k + 1))
      have R2 := R1.1.stored (k * 3 + 2) (.int .i64 (k0 + 3 * k + 1 + 1))
      have hy := hown1.1
      have HT := Lib.hid htake
      have HR := Lib.hid (And.intro R2.1 (grown_trans hgr (grown_trans R0.2 (grown_trans R1.2 R2.2))))
      clear htake hown hown1 R0 R1 R2 hgr
      go_wp2_with fail
      go_roundw
      case rel =>
        refine ⟨k + 1, by omega, by go_num, by rw [show k0 + 3 * ((k + 1 : Nat) : Int) = k0 + 3 * k + 1 + 1 + 1 by omega], HR.out.2, _, HR.out.1, ?_⟩
        rw [take_set3 _ _ _ _ _ (by omega), HT.out, upS_succ, flat_app]; rfl
      case measure => simp [intOf]; omega
    · obtain rfl : k = n := by omega
      have hy := hown1.1
      rw [List.take_of_length_le (by omega)] at htake
      subst htake
      go_wp2_with fail
      go_ret
      exact ⟨rfl, hown1, hgr⟩
theorem heldClueS_any (A : Option Addr) (n c : Nat) (k0 : Int) (w : World) (hn : n ≤ 1048576) (h0 : 0 ≤ k0) (h1 : k0 ≤ 1000000000) (hL : SqsAt w w.heap.size A (upS k0 n)) :
    Calls Tryz.prog 32 #[.slice A n c, .int .i64 k0] w fun e w' => e = .returned (.int .i64 (k0 + 3 * n)) ∧ w = w' := by
  go_enter Tryz.func32, Tryz.ntmps32
  go_wp2_with fail
  go_loop [1, 5] (fun q i => ∃ k : Nat, k ≤ n ∧ i = .int .i64 k ∧ q = .int .i64 (k0 + 3 * k)) (fun _ i => n - (intOf i).toNat)
  case atStart => exact ⟨0, Nat.zero_le _, rfl, by simp⟩
  case round =>
    obtain ⟨k, hk, rfl, rfl⟩ := hrel
    by_cases hlt : k < n
    · obtain ⟨b, off, rfl, hb, c0, c1, c2⟩ := hL k _ (upS_get k0 n k hlt)
      simp only at c0 c1 c2
      clear hL
      go_wp2_with fail
      go_round
      case rel => exact ⟨k + 1, by omega, by go_num, by rw [show k0 + 3 * ((k + 1 : Nat) : Int) = k0 + 3 * k + 1 + 1 + 1 by omega]⟩
      case measure => simp [intOf]; omega
    · obtain rfl : k = n := by omega
      go_wp2_with fail
      go_ret
      exact ⟨rfl, rfl⟩
/-- It returns a cut in memory of the call's own, and a bool. -/
def RetPuzzle (w : World) (W H : Int) (R : List Sq) (ok : Bool) (e : Ending) (w' : World) : Prop :=
  ∃ A c, e = .returned (.tuple #[.agg #[.int .i64 W, .int .i64 H, .slice A R.length c], .bool ok]) ∧ w'.ownsRow w.heap.size 60 3 (.slice A R.length c) R.length (flat R) ∧ Below w.heap.size w w'
theorem RetPuzzle.mk {w w' : World} {W H : Int} {A : Option Addr} {n c : Nat} {R : List Sq} {ok : Bool} (hn : n = R.length) (ho : w'.ownsRow w.heap.size 60 3 (.slice A n c) n (flat R)) (hb : Below w.heap.size w w') :
    RetPuzzle w W H R ok (.returned (.tuple #[.agg #[.int .i64 W, .int .i64 H, .slice A n c], .bool ok])) w' := by
  subst hn; exact ⟨A, c, rfl, ho, hb⟩
theorem RetPuzzle.none_ {w w' : World} (hb : Below w.heap.size w w') : RetPuzzle w 0 0 [] false (.returned (.tuple #[.agg #[.int .i64 0, .int .i64 0, .slice none 0 0], .bool false])) w' :=
  ⟨none, 0, rfl, World.ownsRow_nil _ _ _ _, hb⟩
theorem markPuzzle_any (W H : Int) (A : Option Addr) (n c base : Nat) (xs : List Value) (k0 : Int) (w : World) (hn : n ≤ 1048576) (h0 : 0 ≤ k0) (h1 : k0 ≤ 1000000000) (hown : w.ownsRow base 60 3 (.slice A n c) n xs) :
    Calls Tryz.prog 11 #[.agg #[.int .i64 W, .int .i64 H, .slice A n c], .int .i64 k0] w fun e w' => e = .returned (.int .i64 (k0 + 3 * n)) ∧ w'.ownsRow base 60 3 (.slice A n c) n (flat (upS k0 n)) ∧ w.grownBy w' (Value.slice A n c).ownBlock := by
  have hb0 : ∀ o : Obj, w.grownBy (w.alloc o) (Value.slice A n c).ownBlock := fun o => World.grownBy_alloc w o _
  go_enter Tryz.func11, Tryz.ntmps11
  go_wp2_with fail
  refine (markClueS_any A n c base xs k0 _ hn h0 h1 (hown.alloc _)).mono ?_
  rintro e w1 ⟨rfl, ho, hg⟩
  go_wp2_with fail
  go_ret
  exact ⟨rfl, ho, grown_trans (hb0 _) hg⟩
theorem heldPuzzle_any (W H : Int) (A : Option Addr) (n c : Nat) (k0 : Int) (w : World) (hn : n ≤ 1048576) (h0 : 0 ≤ k0) (h1 : k0 ≤ 1000000000) (hL : SqsAt w w.heap.size A (upS k0 n)) :
    Calls Tryz.prog 16 #[.agg #[.int .i64 W, .int .i64 H, .slice A n c], .int .i64 k0] w fun e w' => e = .returned (.int .i64 (k0 + 3 * n)) ∧ Below w.heap.size w w' := by
  have hb0 : ∀ o : Obj, Below w.heap.size w (w.alloc o) := fun o => (Below.refl _ _).alloc (Nat.le_refl _) o
  have h' : ¬ k0 + 3 * (n : Int) < 0 := by omega
  go_enter Tryz.func16, Tryz.ntmps16
  go_wp2_with fail
  refine (heldClueS_any A n c k0 _ hn h0 h1 ((hL.below (hb0 _)).mono (hb0 _).size)).mono ?_
  rintro e w1 ⟨rfl, rfl⟩
  go_wp2_with fail
  go_ret
  exact ⟨rfl, hb0 _⟩
theorem szPuzzleL_ok (W H : Int) (A : Option Addr) (n c : Nat) (left : Int) (w : World) (h1 : left ≤ 1048576) (h : (n : Int) ≤ left) :
    Calls Tryz.prog 5 #[.agg #[.int .i64 W, .int .i64 H, .slice A n c], .int .i64 left] w fun e w' => e = .returned (.int .i64 (left - n)) ∧ Below w.heap.size w w' := by
  have h' : ¬ left - n < 0 := by omega
  go_enter Tryz.func5, Tryz.ntmps5
  go_wp2_with fail
  refine (szClueS_ok A n c _ _ h1 h).mono ?_
  rintro e w' ⟨rfl, rfl⟩
  go_wp2
  go_ret
  exact ⟨rfl, (Below.refl _ _).alloc (Nat.le_refl _) _⟩
theorem szPuzzleL_over (W H : Int) (A : Option Addr) (n c : Nat) (left : Int) (w : World) (h0 : 0 ≤ left) (h1 : left ≤ 1048576) (h : left < n) (hn : n ≤ 9223372036854775807) :
    Calls Tryz.prog 5 #[.agg #[.int .i64 W, .int .i64 H, .slice A n c], .int .i64 left] w fun e w' => e = .returned (.int .i64 (-1)) ∧ Below w.heap.size w w' := by
  go_enter Tryz.func5, Tryz.ntmps5
  go_wp2_with fail
  refine (szClueS_over A n c _ _ h0 h hn).mono ?_
  rintro e w' ⟨rfl, rfl⟩
  go_wp2
  go_ret
  exact ⟨rfl, (Below.refl _ _).alloc (Nat.le_refl _) _⟩
/-- Blocks of a row of a call's own. -/
theorem own_in {w : World} {base : Nat} {e : TypeId} {size n : Nat} {v : Value} {xs : List Value} (h : w.ownsRow base e size v n xs) : Hid (∀ k, v.ownBlock = some k → base ≤ k ∧ k < w.heap.size) := Lib.hid fun k hk => h.lt k hk
end Go.Proofs.YtchabjmdjpfkfaaGreat
namespace Go.Proofs.YtchabjmdjpfkfaaGreat
open Go.RowKit

theorem d1 (P Q : Prop) : dc (P ∧ Q) = (dc P && dc Q) := by
  by_cases p : P <;> by_cases q : Q <;> simp [dc, p, q]
theorem inB_dc (n lo hi : Int) : inB n lo hi = dc (lo ≤ n ∧ n ≤ hi) := by
  cases h : inB n lo hi with
  | true => rw [dc_true (inB_iff.1 h)]
  | false => rw [dc_false fun h' => by rw [inB_iff.2 h'] at h; cases h]
theorem clueOk_dc (N : Int) (c : Sq) (h : 0 ≤ c.x ∧ c.x ≤ 5) : dc (ClueOk N c) = (inB c.y (spA N c.x).1 (spA N c.x).2 && inB c.d (spB c.x).1 (spB c.x).2) := by
  rw [inB_dc, inB_dc, ← d1, show ClueOk N c = _ from propext clueOk_iff]
  congr 1
  exact propext ⟨fun h => h.2, fun h' => ⟨h, h'⟩⟩
theorem eq0_inB (n : Int) : (n == 0) = inB n 0 0 := by
  rw [Bool.eq_iff_iff, inB_iff]; simp; omega
theorem pzClue_0 (W H a b : Int) (hN : 1 ≤ W * H ∧ W * H ≤ 36) (w : World) : Calls Tryz.prog 34 #[.int .i64 W, .int .i64 H, .agg #[.int .i64 0, .int .i64 a, .int .i64 b]] w fun e w' => e = .returned (.bool (inB a (spA (W * H) 0).1 (spA (W * H) 0).2 && inB b (spB 0).1 (spB 0).2)) ∧ Below w.heap.size w w' := by
  have B0 : Below w.heap.size w (w.alloc (.cells #[.int .i64 0, .int .i64 a, .int .i64 b] 60)) := (Below.refl _ _).alloc (Nat.le_refl _) _
  have C1 := fun w' => l1In_any a (spA (W * H) 0).1 (spA (W * H) 0).2 w'
  have E := eq0_inB b
  simp only [spA, spB] at C1 ⊢
  simp only [show ∀ a b : Int, (a, b).1 = a from fun _ _ => rfl, show ∀ a b : Int, (a, b).2 = b from fun _ _ => rfl, Int.reduceEq, if_true, if_false, reduceIte] at C1 ⊢
  cases e1 : inB a 1 12 with
  | false =>
    rw [e1] at C1
    go_enter Tryz.func34, Tryz.ntmps34
    go_wp2_with fail
    refine (C1 _).mono ?_
    rintro e w1 ⟨rfl, rfl⟩
    go_wp2_with fail
    go_ret
    exact ⟨rfl, B0⟩
  | true =>
    rw [e1] at C1
    go_enter Tryz.func34, Tryz.ntmps34
    go_wp2_with fail
    refine (C1 _).mono ?_
    rintro e w1 ⟨rfl, rfl⟩
    go_wp2_with fail
    go_ret
    exact ⟨rfl, B0⟩
theorem pzClue_1 (W H a b : Int) (hN : 1 ≤ W * H ∧ W * H ≤ 36) (w : World) : Calls Tryz.prog 34 #[.int .i64 W, .int .i64 H, .agg #[.int .i64 1, .int .i64 a, .int .i64 b]] w fun e w' => e = .returned (.bool (inB a (spA (W * H) 1).1 (spA (W * H) 1).2 && inB b (spB 1).1 (spB 1).2)) ∧ Below w.heap.size w w' := by
  have B0 : Below w.heap.size w (w.alloc (.cells #[.int .i64 1, .int .i64 a, .int .i64 b] 60)) := (Below.refl _ _).alloc (Nat.le_refl _) _
  have C1 := fun w' => l1In_any a (spA (W * H) 1).1 (spA (W * H) 1).2 w'
  have E := eq0_inB b
  have C2 := fun w' => l1In_any b (spB 1).1 (spB 1).2 w'
  simp only [spA, spB] at C1 C2 ⊢
  simp only [show ∀ a b : Int, (a, b).1 = a from fun _ _ => rfl, show ∀ a b : Int, (a, b).2 = b from fun _ _ => rfl, Int.reduceEq, if_true, if_false, reduceIte] at C1 C2 ⊢
  cases e1 : inB a 1 6 with
  | false =>
    rw [e1] at C1
    go_enter Tryz.func34, Tryz.ntmps34
    go_wp2_with fail
    refine (C1 _).mono ?_
    rintro e w1 ⟨rfl, rfl⟩
    go_wp2_with fail
    go_ret
    exact ⟨rfl, B0⟩
  | true =>
    rw [e1] at C1
    go_enter Tryz.func34, Tryz.ntmps34
    go_wp2_with fail
    refine (C1 _).mono ?_
    rintro e w1 ⟨rfl, rfl⟩
    go_wp2_with fail
    refine (C2 _).mono ?_
    rintro e w2 ⟨rfl, rfl⟩
    go_wp2_with fail
    go_ret
    exact ⟨rfl, B0⟩
theorem pzClue_2 (W H a b : Int) (hN : 1 ≤ W * H ∧ W * H ≤ 36) (w : World) : Calls Tryz.prog 34 #[.int .i64 W, .int .i64 H, .agg #[.int .i64 2, .int .i64 a, .int .i64 b]] w fun e w' => e = .returned (.bool (inB a (spA (W * H) 2).1 (spA (W * H) 2).2 && inB b (spB 2).1 (spB 2).2)) ∧ Below w.heap.size w w' := by
  have B0 : Below w.heap.size w (w.alloc (.cells #[.int .i64 2, .int .i64 a, .int .i64 b] 60)) := (Below.refl _ _).alloc (Nat.le_refl _) _
  have C1 := fun w' => l1In_any a (spA (W * H) 2).1 (spA (W * H) 2).2 w'
  have E := eq0_inB b
  have C2 := fun w' => l1In_any b (spB 2).1 (spB 2).2 w'
  simp only [spA, spB] at C1 C2 ⊢
  simp only [show ∀ a b : Int, (a, b).1 = a from fun _ _ => rfl, show ∀ a b : Int, (a, b).2 = b from fun _ _ => rfl, Int.reduceEq, if_true, if_false, reduceIte] at C1 C2 ⊢
  obtain ⟨N, hp⟩ : ∃ N, W * H = N := ⟨_, rfl⟩
  rw [hp] at hN C1 ⊢
  have wa : IntKind.i64.wrap (W * H) = N := by rw [hp]; exact IntWalk.i64_in _ (by omega)
  clear hp
  cases e1 : inB a 0 (N - 1) with
  | false =>
    rw [e1] at C1
    go_enter Tryz.func34, Tryz.ntmps34
    go_wp2_with fail
    refine (C1 _).mono ?_
    rintro e w1 ⟨rfl, rfl⟩
    go_wp2_with fail
    go_ret
    exact ⟨rfl, B0⟩
  | true =>
    rw [e1] at C1
    go_enter Tryz.func34, Tryz.ntmps34
    go_wp2_with fail
    refine (C1 _).mono ?_
    rintro e w1 ⟨rfl, rfl⟩
    go_wp2_with fail
    refine (C2 _).mono ?_
    rintro e w2 ⟨rfl, rfl⟩
    go_wp2_with fail
    go_ret
    exact ⟨rfl, B0⟩
theorem pzClue_3 (W H a b : Int) (hN : 1 ≤ W * H ∧ W * H ≤ 36) (w : World) : Calls Tryz.prog 34 #[.int .i64 W, .int .i64 H, .agg #[.int .i64 3, .int .i64 a, .int .i64 b]] w fun e w' => e = .returned (.bool (inB a (spA (W * H) 3).1 (spA (W * H) 3).2 && inB b (spB 3).1 (spB 3).2)) ∧ Below w.heap.size w w' := by
  have B0 : Below w.heap.size w (w.alloc (.cells #[.int .i64 3, .int .i64 a, .int .i64 b] 60)) := (Below.refl _ _).alloc (Nat.le_refl _) _
  have C1 := fun w' => l1In_any a (spA (W * H) 3).1 (spA (W * H) 3).2 w'
  have E := eq0_inB b
  have C2 := fun w' => l1In_any b (spB 3).1 (spB 3).2 w'
  simp only [spA, spB] at C1 C2 ⊢
  simp only [show ∀ a b : Int, (a, b).1 = a from fun _ _ => rfl, show ∀ a b : Int, (a, b).2 = b from fun _ _ => rfl, Int.reduceEq, if_true, if_false, reduceIte] at C1 C2 ⊢
  cases e1 : inB a 0 3 with
  | false =>
    rw [e1] at C1
    go_enter Tryz.func34, Tryz.ntmps34
    go_wp2_with fail
    refine (C1 _).mono ?_
    rintro e w1 ⟨rfl, rfl⟩
    go_wp2_with fail
    go_ret
    exact ⟨rfl, B0⟩
  | true =>
    rw [e1] at C1
    go_enter Tryz.func34, Tryz.ntmps34
    go_wp2_with fail
    refine (C1 _).mono ?_
    rintro e w1 ⟨rfl, rfl⟩
    go_wp2_with fail
    refine (C2 _).mono ?_
    rintro e w2 ⟨rfl, rfl⟩
    go_wp2_with fail
    go_ret
    exact ⟨rfl, B0⟩
theorem pzClue_4 (W H a b : Int) (hN : 1 ≤ W * H ∧ W * H ≤ 36) (w : World) : Calls Tryz.prog 34 #[.int .i64 W, .int .i64 H, .agg #[.int .i64 4, .int .i64 a, .int .i64 b]] w fun e w' => e = .returned (.bool (inB a (spA (W * H) 4).1 (spA (W * H) 4).2 && inB b (spB 4).1 (spB 4).2)) ∧ Below w.heap.size w w' := by
  have B0 : Below w.heap.size w (w.alloc (.cells #[.int .i64 4, .int .i64 a, .int .i64 b] 60)) := (Below.refl _ _).alloc (Nat.le_refl _) _
  have C1 := fun w' => l1In_any a (spA (W * H) 4).1 (spA (W * H) 4).2 w'
  have E := eq0_inB b
  simp only [spA, spB] at C1 ⊢
  simp only [show ∀ a b : Int, (a, b).1 = a from fun _ _ => rfl, show ∀ a b : Int, (a, b).2 = b from fun _ _ => rfl, Int.reduceEq, if_true, if_false, reduceIte] at C1 ⊢
  cases e1 : inB a 0 12 with
  | false =>
    rw [e1] at C1
    go_enter Tryz.func34, Tryz.ntmps34
    go_wp2_with fail
    refine (C1 _).mono ?_
    rintro e w1 ⟨rfl, rfl⟩
    go_wp2_with fail
    go_ret
    exact ⟨rfl, B0⟩
  | true =>
    rw [e1] at C1
    go_enter Tryz.func34, Tryz.ntmps34
    go_wp2_with fail
    refine (C1 _).mono ?_
    rintro e w1 ⟨rfl, rfl⟩
    go_wp2_with fail
    go_ret
    exact ⟨rfl, B0⟩
theorem pzClue_5 (W H a b : Int) (hN : 1 ≤ W * H ∧ W * H ≤ 36) (w : World) : Calls Tryz.prog 34 #[.int .i64 W, .int .i64 H, .agg #[.int .i64 5, .int .i64 a, .int .i64 b]] w fun e w' => e = .returned (.bool (inB a (spA (W * H) 5).1 (spA (W * H) 5).2 && inB b (spB 5).1 (spB 5).2)) ∧ Below w.heap.size w w' := by
  have B0 : Below w.heap.size w (w.alloc (.cells #[.int .i64 5, .int .i64 a, .int .i64 b] 60)) := (Below.refl _ _).alloc (Nat.le_refl _) _
  have C1 := fun w' => l1In_any a (spA (W * H) 5).1 (spA (W * H) 5).2 w'
  have E := eq0_inB b
  simp only [spA, spB] at C1 ⊢
  simp only [show ∀ a b : Int, (a, b).1 = a from fun _ _ => rfl, show ∀ a b : Int, (a, b).2 = b from fun _ _ => rfl, Int.reduceEq, if_true, if_false, reduceIte] at C1 ⊢
  cases e1 : inB a 0 6 with
  | false =>
    rw [e1] at C1
    go_enter Tryz.func34, Tryz.ntmps34
    go_wp2_with fail
    refine (C1 _).mono ?_
    rintro e w1 ⟨rfl, rfl⟩
    go_wp2_with fail
    go_ret
    exact ⟨rfl, B0⟩
  | true =>
    rw [e1] at C1
    go_enter Tryz.func34, Tryz.ntmps34
    go_wp2_with fail
    refine (C1 _).mono ?_
    rintro e w1 ⟨rfl, rfl⟩
    go_wp2_with fail
    go_ret
    exact ⟨rfl, B0⟩
theorem pzClue_no (W H a b k : Int) (hk : ¬ (0 ≤ k ∧ k ≤ 5)) (w : World) : Calls Tryz.prog 34 #[.int .i64 W, .int .i64 H, .agg #[.int .i64 k, .int .i64 a, .int .i64 b]] w fun e w' => e = .returned (.bool false) ∧ Below w.heap.size w w' := by
  have B0 : Below w.heap.size w (w.alloc (.cells #[.int .i64 k, .int .i64 a, .int .i64 b] 60)) := (Below.refl _ _).alloc (Nat.le_refl _) _
  have h0 : (k == 0) = false := by simp; omega
  have h1 : (k == 1) = false := by simp; omega
  have h2 : (k == 2) = false := by simp; omega
  have h3 : (k == 3) = false := by simp; omega
  have h4 : (k == 4) = false := by simp; omega
  have h5 : (k == 5) = false := by simp; omega
  go_enter Tryz.func34, Tryz.ntmps34
  go_wp2_with fail
  go_ret
  exact ⟨rfl, B0⟩
theorem pzClue_any (W H : Int) (hN : 1 ≤ W * H ∧ W * H ≤ 36) (c : Sq) (w : World) : Calls Tryz.prog 34 #[.int .i64 W, .int .i64 H, .agg #[.int .i64 c.x, .int .i64 c.y, .int .i64 c.d]] w (RetB w (ClueOk (W * H) c)) := by
  by_cases h : 0 ≤ c.x ∧ c.x ≤ 5
  · unfold RetB
    rw [clueOk_dc _ c h]
    obtain ⟨k, a, b⟩ := c
    dsimp only at h ⊢
    rcases (by omega : k = 0 ∨ k = 1 ∨ k = 2 ∨ k = 3 ∨ k = 4 ∨ k = 5) with rfl | rfl | rfl | rfl | rfl | rfl
    · exact pzClue_0 W H a b hN w
    · exact pzClue_1 W H a b hN w
    · exact pzClue_2 W H a b hN w
    · exact pzClue_3 W H a b hN w
    · exact pzClue_4 W H a b hN w
    · exact pzClue_5 W H a b hN w
  · exact (pzClue_no W H c.y c.d c.x h w).mono fun e w' hh => ⟨by rw [hh.1, dc_false fun h' => h (clueOk_iff.1 h').1], hh.2⟩
end Go.Proofs.YtchabjmdjpfkfaaGreat
namespace Go.Proofs.YtchabjmdjpfkfaaGreat
open Go.RowKit

/-- A puzzle. -/
def GoodP (W H : Int) (L : List Sq) : Prop := okP W H = true ∧ L.length ≤ 6 ∧ ∀ s ∈ L, ClueOk (W * H) s
theorem GoodP.size {W H : Int} {L : List Sq} (h : GoodP W H L) : ((1 ≤ W ∧ W ≤ 6) ∧ 1 ≤ H ∧ H ≤ 6) ∧ 1 ≤ W * H ∧ W * H ≤ 12 := ⟨(okP_iff.1 h.1).1, okP_size h.1⟩
theorem implIsPuz_any (W H : Int) (A : Option Addr) (n c : Nat) (L : List Sq) (w : World) (hl : L.length = n) (hn9 : n ≤ 9223372036854775807) (hL : SqsAt w w.heap.size A L) : Calls Tryz.prog 44 #[.agg #[.int .i64 W, .int .i64 H, .slice A n c]] w (RetB w (GoodP W H L)) := by
  have B0 : Below w.heap.size w (w.alloc (.cells #[.int .i64 W, .int .i64 H, .slice A n c] 31)) := (Below.refl _ _).alloc (Nat.le_refl _) _
  have K0 := Cv3.start w (.int .i64 W) (.int .i64 H) (.slice A n c) 31
  have ha := fun w' => hidSize_any W H w'
  cases hok : okP W H with
  | false =>
    rw [hok] at ha
    obtain ⟨kl, k0, k1, k2⟩ := id K0
    go_enter Tryz.func44, Tryz.ntmps44
    go_wp2_with fail
    refine (ha _).mono ?_
    rintro e w' ⟨rfl, rfl⟩
    go_wp2_with fail
    go_ret
    exact RetB.mk ⟨fun h => (by cases h), fun h => by rw [h.1] at hok; cases hok⟩ B0
  | true =>
    rw [hok] at ha
    obtain ⟨N, hp⟩ : ∃ N, W * H = N := ⟨_, rfl⟩
    have hs := okP_size hok
    by_cases h6 : n ≤ 6
    · have d6 : decide ((n : Int) ≤ 6) = true := by simp; omega
      rw [hp] at hs
      have wa : IntKind.i64.wrap (W * H) = N := by rw [hp]; exact IntWalk.i64_in _ (by omega)
      have HOK := Lib.hid hok
      have HP := Lib.hid hp
      have HL := Lib.hid hl
      have C := Lib.hid (areClues_any N (by omega) A n c L _ hl (by omega) ((hL.below B0).mono B0.size))
      clear hok hp hl hL h6
      obtain ⟨kl, k0, k1, k2⟩ := id K0
      go_enter Tryz.func44, Tryz.ntmps44
      go_wp2_with fail
      refine (ha _).mono ?_
      rintro e w' ⟨rfl, rfl⟩
      go_wp2_with fail
      (with_reducible refine C.out.mono ?_)
      rintro e w' ⟨rfl, hb⟩
      go_wp2_with fail
      go_ret
      refine RetB.mk ?_ (B0.trans (hb.mono B0.size))
      have hL6 : L.length ≤ 6 := by have := HL.out; simp at d6; omega
      simp only [GoodP, HOK.out, HP.out, hL6]
      rw [dc_iff]; simp
    · have d6 : decide ((n : Int) ≤ 6) = false := by simp; omega
      have HOK := Lib.hid hok
      have HL := Lib.hid hl
      have h6' := Lib.hid h6
      clear hok hp hl hL h6 hs
      obtain ⟨kl, k0, k1, k2⟩ := id K0
      go_enter Tryz.func44, Tryz.ntmps44
      go_wp2_with fail
      refine (ha _).mono ?_
      rintro e w' ⟨rfl, rfl⟩
      go_wp2_with fail
      go_ret
      exact RetB.mk ⟨fun h => (by cases h), fun h => by have := h.2.1; have := HL.out; have := h6'.out; omega⟩ B0
set_option maxRecDepth 100000 in
set_option maxHeartbeats 4000000 in
theorem pzGood_any (W H : Int) (A : Option Addr) (n c : Nat) (L : List Sq) (w : World) (hl : L.length = n) (hn9 : n ≤ 9223372036854775807) (hL : SqsAt w w.heap.size A L) : Calls Tryz.prog 18 #[.agg #[.int .i64 W, .int .i64 H, .slice A n c]] w (RetB w (GoodP W H L)) := by
  have B0 : Below w.heap.size w (w.alloc (.cells #[.int .i64 W, .int .i64 H, .slice A n c] 31)) := (Below.refl _ _).alloc (Nat.le_refl _) _
  have K0 := Cv3.start w (.int .i64 W) (.int .i64 H) (.slice A n c) 31
  have ha := fun w' => pzSize_any W H w'
  cases hok : okP W H with
  | false =>
    rw [hok] at ha
    obtain ⟨kl, k0, k1, k2⟩ := id K0
    go_enter Tryz.func18, Tryz.ntmps18
    go_wp2_with fail
    refine (ha _).mono ?_
    rintro e w' ⟨rfl, rfl⟩
    go_wp2_with fail
    go_ret
    exact RetB.mk ⟨fun h => (by cases h), fun h => by rw [h.1] at hok; cases hok⟩ B0
  | true =>
    rw [hok] at ha
    have hs := okP_size hok
    by_cases h6 : n ≤ 6
    · have d6 : decide ((6 : Int) < (n : Int)) = false := by simp; omega
      have HOK := Lib.hid hok
      have h7 := Lib.hid h6
      clear hok h6
      have C := fun s w' => pzClue_any W H (by omega) s w'
      obtain ⟨kl, k0, k1, k2⟩ := id K0
      go_enter Tryz.func18, Tryz.ntmps18
      go_wp2_with fail
      refine (ha _).mono ?_
      rintro e w' ⟨rfl, rfl⟩
      go_wp2_with fail
      clear kl k0 k1 k2
      obtain ⟨W0, hW0⟩ : ∃ W0, W0 = w.alloc (.cells #[.int .i64 W, .int .i64 H, .slice A n c] 31) := ⟨_, rfl⟩
      rw [← hW0] at B0 K0 ⊢
      clear hW0
      go_loopw [20] (fun i wr => ∃ k : Nat, k ≤ n ∧ i = .int .i64 k ∧ (∀ j s, j < k → L[j]? = some s → ClueOk (W * H) s) ∧ Below w.heap.size w wr ∧ Cv3 w.heap.size wr (.int .i64 W) (.int .i64 H) (.slice A n c)) (fun i _ => n - (intOf i).toNat)
      case atStart => exact ⟨0, Nat.zero_le _, rfl, fun j s h => absurd h (Nat.not_lt_zero _), B0, K0⟩
      case round =>
        obtain ⟨k, hk, rfl, hpre, hbr, KR⟩ := hrel
        clear B0 K0
        by_cases hlt : k < n
        · obtain ⟨s, hs'⟩ : ∃ s, L[k]? = some s := ⟨_, List.getElem?_eq_getElem (by rw [hl]; exact hlt)⟩
          obtain ⟨b, off, rfl, hb, c0, c1, c2⟩ := hL k s hs'
          have HP := Lib.hid hpre
          have HS := Lib.hid hs'
          have HL := Lib.hid hl
          have c0' := (hbr.cell (p := ⟨b, off + k * 3, none⟩) hb).trans c0
          have c1' := (hbr.cell (p := ⟨b, off + k * 3 + 1, none⟩) hb).trans c1
          have c2' := (hbr.cell (p := ⟨b, off + k * 3 + 2, none⟩) hb).trans c2
          clear c0 c1 c2 hL hpre hs' hl
          have i0 : (0 : Int) ≤ (k : Int) := by omega
          have i1 : (k : Int) < (n : Int) := by omega
          obtain ⟨kl, k0, k1, k2⟩ := id KR
          by_cases hcl : ClueOk (W * H) s
          · have C1 := fun w' => callB_yes (C s w') hcl
            go_wp2_with fail
            clear kl k0 k1 k2
            obtain ⟨W1, hW1⟩ : ∃ W1, W1 = wr.alloc (.cells #[.int .i64 s.x, .int .i64 s.y, .int .i64 s.d] 60) := ⟨_, rfl⟩
            have hb1 : Below wr.heap.size wr W1 := by rw [hW1]; exact (Below.refl _ _).alloc (Nat.le_refl _) _
            rw [← hW1]
            clear hW1
            refine (C1 W1).mono ?_
            rintro e w2 ⟨rfl, hb2⟩
            have hb3 : Below wr.heap.size wr w2 := hb1.trans (hb2.mono hb1.size)
            clear c0' c1' c2'
            have KN := KR.next hb3
            obtain ⟨kl, k0, k1, k2⟩ := id KN
            go_wp2_with fail
            go_roundw
            case rel =>
              refine ⟨k + 1, by omega, by go_num, fun j t hj ht => ?_, hbr.trans (hb3.mono hbr.size), KN⟩
              rcases (by omega : j < k ∨ j = k) with h | rfl
              · exact HP.out j t h ht
              · rw [HS.out] at ht; cases ht; exact hcl
            case measure => simp [intOf]; omega
          · have C1 := fun w' => callB_no (C s w') hcl
            go_wp2_with fail
            clear kl k0 k1 k2
            obtain ⟨W1, hW1⟩ : ∃ W1, W1 = wr.alloc (.cells #[.int .i64 s.x, .int .i64 s.y, .int .i64 s.d] 60) := ⟨_, rfl⟩
            have hb1 : Below wr.heap.size wr W1 := by rw [hW1]; exact (Below.refl _ _).alloc (Nat.le_refl _) _
            rw [← hW1]
            clear hW1
            refine (C1 W1).mono ?_
            rintro e w2 ⟨rfl, hb2⟩
            have hb3 : Below wr.heap.size wr w2 := hb1.trans (hb2.mono hb1.size)
            clear c0' c1' c2'
            go_wp2_with fail
            go_ret
            exact RetB.mk ⟨fun h => (by cases h), fun h => absurd (h.2.2 s (List.mem_of_getElem? HS.out)) hcl⟩ (hbr.trans (hb3.mono hbr.size))
        · obtain rfl : k = n := by omega
          have HP := Lib.hid hpre
          have HL := Lib.hid hl
          clear hpre hL hl
          go_wp2_with fail
          go_ret
          refine RetB.mk ⟨fun _ => ⟨HOK.out, by have := HL.out; have := h7.out; omega, fun s hs => ?_⟩, fun _ => rfl⟩ hbr
          obtain ⟨j, hj⟩ := List.getElem?_of_mem hs
          have hj' := (List.getElem?_eq_some_iff.1 hj).1
          exact HP.out j s (by have := HL.out; omega) hj
    · have d6 : decide ((6 : Int) < (n : Int)) = true := by simp; omega
      have HL := Lib.hid hl
      have h6' := Lib.hid h6
      clear hok hl hL h6 hs
      obtain ⟨kl, k0, k1, k2⟩ := id K0
      go_enter Tryz.func18, Tryz.ntmps18
      go_wp2_with fail
      refine (ha _).mono ?_
      rintro e w' ⟨rfl, rfl⟩
      go_wp2_with fail
      go_ret
      exact RetB.mk ⟨fun h => (by cases h), fun h => by have := h.2.1; have := HL.out; have := h6'.out; omega⟩ B0
end Go.Proofs.YtchabjmdjpfkfaaGreat
