/- Squares laid where the columns are lowest: the memory that both programs keep. -/
import Derived.Test.YtebnekicbcdnaaaFillG
import Derived.Test.YtebnekicbcdnaaaApp
import Derived.Test.YtebnekicbcdnaaaShelf
set_option linter.all false
namespace Go.Proofs.Ytebnekicbcdnaaa
open Go.RowKit

/-- It returns the cut of these sides, if there is one. -/
def RetFill (w : World) (W : Int) (d : List Int) (e : Ending) (w' : World) : Prop :=
  RetCut w (if (fillR W d).2.2 then W else 0) (fillR W d).1 (fillR W d).2.1 (fillR W d).2.2 e w'
theorem RetFill.no {w w' : World} {W : Int} {d : List Int} (h : fillR W d = (0, [], false)) (hb : Below w.heap.size w w') : RetFill w W d (.returned (.tuple #[.agg #[.int .i64 0, .int .i64 0, .slice none 0 0], .bool false])) w' := by
  unfold RetFill
  rw [h]
  exact RetCut.none_ hb
theorem RetFill.yes {w w' : World} {W H : Int} {d : List Int} {A : Option Addr} {n c : Nat} {L : List Sq} (h : fillR W d = (H, L, true)) (hn : n = L.length) (ho : w'.ownsRow w.heap.size 96 3 (.slice A n c) n (flat L)) (hb : Below w.heap.size w w') :
    RetFill w W d (.returned (.tuple #[.agg #[.int .i64 W, .int .i64 H, .slice A n c], .bool true])) w' := by
  unfold RetFill
  rw [h]
  exact RetCut.mk hn ho hb

theorem min_ind (f : List Int) (k : Nat) (h0 : 0 < k) (hk : k ≤ f.length) : (∀ (i : Nat) u, i < k → f[i]? = some u → Lib.minOf (f.take k) ≤ u) ∧ ∃ i, i < k ∧ f[i]? = some (Lib.minOf (f.take k)) := by
  induction k with
  | zero => omega
  | succ k ih =>
    have hg : f[k]? = some (f.getD k 0) := by simp [List.getD, List.getElem?_eq_getElem (by omega : k < f.length)]
    rcases Nat.eq_zero_or_pos k with rfl | hp
    · rw [Lib.minOf_one]
      refine ⟨fun i u hi hu => ?_, 0, by omega, hg⟩
      obtain rfl : i = 0 := by omega
      rw [hg] at hu; cases hu; exact Int.le_refl _
    · rw [Lib.minOf_step f k hp (by omega)]
      obtain ⟨h1, j, hj, h2⟩ := ih hp (by omega)
      refine ⟨fun i u hi hu => ?_, ?_⟩
      · by_cases e : i = k
        · subst e
          rw [hg] at hu; cases hu; omega
        · have := h1 i u (by omega) hu; omega
      · by_cases e : Lib.minOf (f.take k) ≤ f.getD k 0
        · exact ⟨j, by omega, by rw [h2]; congr 1; omega⟩
        · exact ⟨k, by omega, by rw [hg]; congr 1; omega⟩
theorem fm_min {f : List Int} {n x : Nat} {y : Int} (hn : f.length = n) (hm : FM f x y) : Lib.minOf (f.take n) = y := by
  have hx := (List.getElem?_eq_some_iff.1 hm.1).1
  obtain ⟨h1, i, hi, h2⟩ := min_ind f n (by omega) (by omega)
  have a := h1 x y (by omega) hm.1
  have b := hm.2.1 i _ h2
  omega
theorem fm_idx {f : List Int} {n x : Nat} {y : Int} (hn : f.length = n) (hm : FM f x y) : Lib.idxOf (f.take n) y = x := by
  have hx := (List.getElem?_eq_some_iff.1 hm.1).1
  refine Lib.idxOf_hit f n x y (by omega) (by omega) (by simp [List.getD, hm.1]) fun j hj e => ?_
  have hg : f[j]? = some (f.getD j 0) := by simp [List.getD, List.getElem?_eq_getElem (by omega : j < f.length)]
  have := hm.2.2 j _ hj hg
  omega
theorem cells_own {w : World} {base g n c : Nat} {f : List Int} (h : w.ownsRow base 3 1 (.slice (some ⟨g, 0, none⟩) n c) n (ints f)) : ∀ j, j < f.length → w.cell? ⟨g, 0 + j, none⟩ = some (.int .i64 (f.getD j 0)) := by
  intro j hj
  have hl := h.1
  rw [ints_len] at hl
  rw [Nat.zero_add, h.cellAt j (by omega)]
  simp [ints, List.getD, List.getElem?_eq_getElem hj]
theorem minF_any {base g n c : Nat} {f : List Int} {x : Nat} {y : Int} (w : World) (h : w.ownsRow base 3 1 (.slice (some ⟨g, 0, none⟩) n c) n (ints f)) (hm : FM f x y) (hn : n ≤ 1000) :
    Calls Try.prog 117 #[.slice (some ⟨g, 0, none⟩) n c] w fun e w' => e = .returned (.int .i64 y) ∧ w' = w := by
  have hl := h.1
  rw [ints_len, Nat.mul_one] at hl
  have hx := (List.getElem?_eq_some_iff.1 hm.1).1
  have := Try.slices_Min_int g 0 n c f w (by omega) (by omega) (by omega) (cells_own h)
  rwa [fm_min hl hm] at this
theorem idxF_any {base g n c : Nat} {f : List Int} {x : Nat} {y : Int} (w : World) (h : w.ownsRow base 3 1 (.slice (some ⟨g, 0, none⟩) n c) n (ints f)) (hm : FM f x y) (hn : n ≤ 1000) :
    Calls Try.prog 118 #[.slice (some ⟨g, 0, none⟩) n c, .int .i64 y] w fun e w' => e = .returned (.int .i64 x) ∧ w' = w := by
  have hl := h.1
  rw [ints_len, Nat.mul_one] at hl
  have hx := (List.getElem?_eq_some_iff.1 hm.1).1
  have := Try.slices_Index_int g 0 n c f y w (by omega) (by omega) (cells_own h)
  rwa [fm_idx hl hm] at this

/-- The memory of the call: the result, the cut under way, the columns' heights, the squares. -/
structure FMem (w0 wr : World) (W : Int) (g m : Nat) (f : List Int) (A : Option Addr) (k c : Nat) (L : List Sq) : Prop where
  q : Bx w0.heap.size wr 0 0 none 0 0
  qf : ∀ o, wr.frozen? ⟨w0.heap.size, o, none⟩ = false
  b : Bx (w0.heap.size + 1) wr W 0 A k c
  bf : ∀ o, wr.frozen? ⟨w0.heap.size + 1, o, none⟩ = false
  own : wr.ownsRow (w0.heap.size + 2) 3 1 (.slice (some ⟨g, 0, none⟩) m m) m (ints f)
  sq : wr.ownsRow (g + 1) 96 3 (.slice A k c) k (flat L)
  below : Below w0.heap.size w0 wr
theorem FMem.keep {w0 wr w' : World} {W : Int} {g m : Nat} {f : List Int} {A : Option Addr} {k c : Nat} {L : List Sq} (h : FMem w0 wr W g m f A k c L) (hb : Below wr.heap.size wr w') : FMem w0 w' W g m f A k c L :=
  ⟨h.q.next hb, fun o => (hb.frozen (p := ⟨w0.heap.size, o, none⟩) h.q.lt).trans (h.qf o), h.b.next hb, fun o => (hb.frozen (p := ⟨w0.heap.size + 1, o, none⟩) h.b.lt).trans (h.bf o), own_keep h.own hb, own_keep h.sq hb, h.below.trans (hb.mono h.below.size)⟩
theorem ints_set (f : List Int) (j : Nat) (v : Int) : ints (f.set j v) = (ints f).set j (.int .i64 v) := by simp [ints, List.map_set]
theorem FMem.set {w0 wr : World} {W : Int} {g m : Nat} {f : List Int} {A : Option Addr} {k c : Nat} {L : List Sq} (h : FMem w0 wr W g m f A k c L) (j : Nat) (v : Int) : FMem w0 (wr.setCell ⟨g, j, none⟩ (.int .i64 v)) W g m (f.set j v) A k c L := by
  obtain ⟨R1, R2⟩ := h.own.stored j (.int .i64 v)
  have hg := own_lt h.own
  have n0 : some g ≠ some w0.heap.size := fun e => by cases e; omega
  have n1 : some g ≠ some (w0.heap.size + 1) := fun e => by cases e; omega
  refine ⟨h.q.far R2 n0, fun o => ?_, h.b.far R2 n1, fun o => ?_, by rw [ints_set]; exact R1, own_far h.sq R2 (fun kk hkk e => ?_), h.below.setCell (p := ⟨g, j, none⟩) (by simp; omega) _⟩
  · exact (R2.frozen_far ⟨w0.heap.size, o, none⟩ h.q.lt (fun e => n0 e.symm)).trans (h.qf o)
  · exact (R2.frozen_far ⟨w0.heap.size + 1, o, none⟩ h.b.lt (fun e => n1 e.symm)).trans (h.bf o)
  · cases e
    have := (h.sq.lt g hkk).1
    omega
theorem liftF_step {f : List Int} {x j : Nat} {s u : Int} (hx : x ≤ j) (h : f[j]? = some u) : (liftF f x (j - x) s)[j]? = some u ∧ liftF f x (j + 1 - x) s = (liftF f x (j - x) s).set j (u + s) := by
  obtain ⟨n, rfl⟩ : ∃ n, j = x + n := ⟨j - x, by omega⟩
  have e1 : x + n - x = n := by omega
  have e2 : x + n + 1 - x = n + 1 := by omega
  rw [e1, e2]
  exact ⟨liftF_at f x n s u h, liftF_succ f x n s u h⟩
theorem farC4 {w w4 w6 : World} {row : Option Nat} {a : Addr} {v : Value} (hb : Below w.heap.size w w4) (hg : w4.grownBy w6 row) (hlt : a.block < w.heap.size) (hne : some a.block ≠ row) (h : w.cell? a = some v) : w6.cell? a = some v :=
  (hg.cell_far a (Nat.lt_of_lt_of_le hlt hb.size) hne).trans ((hb.cell hlt).trans h)
theorem farF4 {w w4 w6 : World} {row : Option Nat} {a : Addr} (hb : Below w.heap.size w w4) (hg : w4.grownBy w6 row) (hlt : a.block < w.heap.size) (hne : some a.block ≠ row) (h : w.frozen? a = false) : w6.frozen? a = false :=
  (hg.frozen_far a (Nat.lt_of_lt_of_le hlt hb.size) hne).trans ((hb.frozen hlt).trans h)
theorem FMem.push {w0 wr w4 w6 : World} {W : Int} {g m : Nat} {f : List Int} {A A6 : Option Addr} {k c c6 : Nat} {L : List Sq} {q : Sq} (h : FMem w0 wr W g m f A k c L) (hb : Below wr.heap.size wr w4) (hg : w4.grownBy w6 (Value.slice A k c).ownBlock)
    (ho : w6.ownsRow (g + 1) 96 3 (.slice A6 (k + 1) c6) (k + 1) (flat L ++ [.int .i64 q.x, .int .i64 q.y, .int .i64 q.d])) : FMem w0 (w6.setCell ⟨w0.heap.size + 1, 2, none⟩ (.slice A6 (k + 1) c6)) W g m f A6 (k + 1) c6 (L ++ [q]) := by
  have h' := h.keep hb
  have hgg := own_lt h.own
  have hne : ∀ b, b < g + 1 → (Value.slice A k c).ownBlock ≠ some b := fun b hb e => by have := (h.sq.lt b e).1; omega
  have q6 := h'.q.far hg (hne _ (by omega))
  have b6 := h'.b.far hg (hne _ (by omega))
  have o6 := own_far h'.own hg (fun kk hkk => by cases hkk; exact hne g (Nat.lt_succ_self g))
  have hs : Below (w0.heap.size + 1) w6 (w6.setCell ⟨w0.heap.size + 1, 2, none⟩ (.slice A6 (k + 1) c6)) := (Below.refl _ w6).setCell (p := ⟨w0.heap.size + 1, 2, none⟩) (Nat.le_refl _) _
  have hB6 : Below w0.heap.size w0 w6 := h'.below.grown hg h'.below.size (fun kk e => by have := (h.sq.lt kk e).1; omega)
  refine ⟨⟨by simpa using q6.lt, (hs.cell (p := ⟨w0.heap.size, 0, none⟩) (by simp)).trans q6.c0, (hs.cell (p := ⟨w0.heap.size, 1, none⟩) (by simp)).trans q6.c1, (hs.cell (p := ⟨w0.heap.size, 2, none⟩) (by simp)).trans q6.c2⟩, fun o' => ?_, ⟨by simpa using b6.lt, putC0 b6.c0, putC1 b6.c1, putC2 b6.c2⟩, fun o' => ?_, ownsRow_setCell_below o6 (a := ⟨w0.heap.size + 1, 2, none⟩) (by simp) _, ?_, hB6.setCell (p := ⟨w0.heap.size + 1, 2, none⟩) (by simp) _⟩
  · exact (hs.frozen (p := ⟨w0.heap.size, o', none⟩) (by simp)).trans ((hg.frozen_far ⟨w0.heap.size, o', none⟩ h'.q.lt (fun e => hne w0.heap.size (by omega) e.symm)).trans (h'.qf o'))
  · rw [World.frozen?_setCell]
    exact (hg.frozen_far ⟨w0.heap.size + 1, o', none⟩ h'.b.lt (fun e => hne (w0.heap.size + 1) (by omega) e.symm)).trans (h'.bf o')
  · have : flat (L ++ [q]) = flat L ++ [.int .i64 q.x, .int .i64 q.y, .int .i64 q.d] := by rw [flat_app]; rfl
    rw [this]
    exact ownsRow_setCell_below ho (a := ⟨w0.heap.size + 1, 2, none⟩) (by simp; omega) _
theorem FMem.high {w0 wr : World} {W : Int} {g m : Nat} {f : List Int} {A : Option Addr} {k c : Nat} {L : List Sq} (h : FMem w0 wr W g m f A k c L) (y : Int) :
    Bx w0.heap.size (wr.setCell ⟨w0.heap.size + 1, 1, none⟩ (.int .i64 y)) 0 0 none 0 0 ∧ (∀ o, (wr.setCell ⟨w0.heap.size + 1, 1, none⟩ (.int .i64 y)).frozen? ⟨w0.heap.size, o, none⟩ = false) ∧ Bx (w0.heap.size + 1) (wr.setCell ⟨w0.heap.size + 1, 1, none⟩ (.int .i64 y)) W y A k c ∧
    (wr.setCell ⟨w0.heap.size + 1, 1, none⟩ (.int .i64 y)).ownsRow (g + 1) 96 3 (.slice A k c) k (flat L) ∧ Below w0.heap.size w0 (wr.setCell ⟨w0.heap.size + 1, 1, none⟩ (.int .i64 y)) := by
  have hs : Below (w0.heap.size + 1) wr (wr.setCell ⟨w0.heap.size + 1, 1, none⟩ (.int .i64 y)) := (Below.refl _ wr).setCell (p := ⟨w0.heap.size + 1, 1, none⟩) (Nat.le_refl _) _
  have hgg := own_lt h.own
  refine ⟨⟨by simpa using h.q.lt, (hs.cell (p := ⟨w0.heap.size, 0, none⟩) (by simp)).trans h.q.c0, (hs.cell (p := ⟨w0.heap.size, 1, none⟩) (by simp)).trans h.q.c1, (hs.cell (p := ⟨w0.heap.size, 2, none⟩) (by simp)).trans h.q.c2⟩, fun o => ?_, ⟨by simpa using h.b.lt, ?_, ?_, ?_⟩, ownsRow_setCell_below h.sq (a := ⟨w0.heap.size + 1, 1, none⟩) (by simp; omega) _, h.below.setCell (p := ⟨w0.heap.size + 1, 1, none⟩) (by simp) _⟩
  · rw [World.frozen?_setCell]; exact h.qf o
  · simp [go_sem, h.b.c0]
  · simp [go_sem, h.b.c1]
  · simp [go_sem, h.b.c2]
theorem put_grown (w : World) (a : Addr) (v : Value) : w.grownBy (w.setCell a v) (some a.block) :=
  ⟨rfl, rfl, rfl, by simp, fun k _ hk => Below.heap_setCell _ _ _ k (fun e => hk (by rw [e]))⟩
/-- As FMem, the cut under way at block cb, the squares from block sb on. -/
structure FS (w0 wr : World) (cb sb : Nat) (W : Int) (g m : Nat) (f : List Int) (A : Option Addr) (k c : Nat) (L : List Sq) : Prop where
  p0 : w0.heap.size < cb
  p1 : w0.heap.size < g
  p2 : cb ≠ g
  p3 : cb < sb
  p4 : g < sb
  q : Bx w0.heap.size wr 0 0 none 0 0
  qf : ∀ o, wr.frozen? ⟨w0.heap.size, o, none⟩ = false
  b : Bx cb wr W 0 A k c
  bf : ∀ o, wr.frozen? ⟨cb, o, none⟩ = false
  own : wr.ownsRow (w0.heap.size + 1) 3 1 (.slice (some ⟨g, 0, none⟩) m m) m (ints f)
  sq : wr.ownsRow sb 96 3 (.slice A k c) k (flat L)
  below : Below w0.heap.size w0 wr
theorem FS.keep {w0 wr w' : World} {cb sb : Nat} {W : Int} {g m : Nat} {f : List Int} {A : Option Addr} {k c : Nat} {L : List Sq} (h : FS w0 wr cb sb W g m f A k c L) (hb : Below wr.heap.size wr w') : FS w0 w' cb sb W g m f A k c L :=
  ⟨h.p0, h.p1, h.p2, h.p3, h.p4, h.q.next hb, fun o => (hb.frozen (p := ⟨w0.heap.size, o, none⟩) h.q.lt).trans (h.qf o), h.b.next hb, fun o => (hb.frozen (p := ⟨cb, o, none⟩) h.b.lt).trans (h.bf o), own_keep h.own hb, own_keep h.sq hb, h.below.trans (hb.mono h.below.size)⟩
theorem FS.set {w0 wr : World} {cb sb : Nat} {W : Int} {g m : Nat} {f : List Int} {A : Option Addr} {k c : Nat} {L : List Sq} (h : FS w0 wr cb sb W g m f A k c L) (j : Nat) (v : Int) : FS w0 (wr.setCell ⟨g, j, none⟩ (.int .i64 v)) cb sb W g m (f.set j v) A k c L := by
  obtain ⟨R1, R2⟩ := h.own.stored j (.int .i64 v)
  have hp := h.p1
  have hp2 := h.p2
  have hp4 := h.p4
  have n0 : some g ≠ some w0.heap.size := fun e => by cases e; omega
  have n1 : some g ≠ some cb := fun e => by cases e; omega
  refine ⟨h.p0, h.p1, h.p2, h.p3, h.p4, h.q.far R2 n0, fun o => ?_, h.b.far R2 n1, fun o => ?_, by rw [ints_set]; exact R1, own_far h.sq R2 (fun kk hkk e => ?_), h.below.setCell (p := ⟨g, j, none⟩) (by simp; omega) _⟩
  · exact (R2.frozen_far ⟨w0.heap.size, o, none⟩ h.q.lt (fun e => n0 e.symm)).trans (h.qf o)
  · exact (R2.frozen_far ⟨cb, o, none⟩ h.b.lt (fun e => n1 e.symm)).trans (h.bf o)
  · cases e
    have := (h.sq.lt g hkk).1
    omega
theorem FS.push {w0 wr w4 w6 : World} {cb sb : Nat} {W : Int} {g m : Nat} {f : List Int} {A A6 : Option Addr} {k c c6 : Nat} {L : List Sq} {q : Sq} (h : FS w0 wr cb sb W g m f A k c L) (hb : Below wr.heap.size wr w4) (hg : w4.grownBy w6 (Value.slice A k c).ownBlock)
    (ho : w6.ownsRow sb 96 3 (.slice A6 (k + 1) c6) (k + 1) (flat L ++ [.int .i64 q.x, .int .i64 q.y, .int .i64 q.d])) : FS w0 (w6.setCell ⟨cb, 2, none⟩ (.slice A6 (k + 1) c6)) cb sb W g m f A6 (k + 1) c6 (L ++ [q]) := by
  have h' := h.keep hb
  obtain ⟨p0, p1, p2, p3, p4⟩ : w0.heap.size < cb ∧ w0.heap.size < g ∧ cb ≠ g ∧ cb < sb ∧ g < sb := ⟨h.p0, h.p1, h.p2, h.p3, h.p4⟩
  have hne : ∀ b, b < sb → (Value.slice A k c).ownBlock ≠ some b := fun b hb e => by have := (h.sq.lt b e).1; omega
  have q6 := h'.q.far hg (hne _ (by omega))
  have b6 := h'.b.far hg (hne _ (by omega))
  have o6 := own_far h'.own hg (fun kk hkk => by cases hkk; exact hne g p4)
  have hs := put_grown w6 ⟨cb, 2, none⟩ (.slice A6 (k + 1) c6)
  have m0 : some cb ≠ some w0.heap.size := fun e => by cases e; omega
  have hB6 : Below w0.heap.size w0 w6 := h'.below.grown hg h'.below.size (fun kk e => by have := (h.sq.lt kk e).1; omega)
  refine ⟨p0, p1, p2, p3, p4, q6.far hs m0, fun o' => ?_, ⟨by simpa using b6.lt, putC0 b6.c0, putC1 b6.c1, putC2 b6.c2⟩, fun o' => ?_, own_far o6 hs (fun kk hkk e => ?_), ?_, hB6.setCell (p := ⟨cb, 2, none⟩) (by simp; omega) _⟩
  · rw [World.frozen?_setCell]
    exact (hg.frozen_far ⟨w0.heap.size, o', none⟩ h'.q.lt (fun e => hne w0.heap.size (by omega) e.symm)).trans (h'.qf o')
  · rw [World.frozen?_setCell]
    exact (hg.frozen_far ⟨cb, o', none⟩ h'.b.lt (fun e => hne cb (by omega) e.symm)).trans (h'.bf o')
  · cases hkk; cases e; omega
  · have : flat (L ++ [q]) = flat L ++ [.int .i64 q.x, .int .i64 q.y, .int .i64 q.d] := by rw [flat_app]; rfl
    rw [this]
    exact ownsRow_setCell_below ho (a := ⟨cb, 2, none⟩) (by simp; omega) _
theorem FS.high {w0 wr : World} {cb sb : Nat} {W : Int} {g m : Nat} {f : List Int} {A : Option Addr} {k c : Nat} {L : List Sq} (h : FS w0 wr cb sb W g m f A k c L) (y : Int) :
    Bx w0.heap.size (wr.setCell ⟨cb, 1, none⟩ (.int .i64 y)) 0 0 none 0 0 ∧ (∀ o, (wr.setCell ⟨cb, 1, none⟩ (.int .i64 y)).frozen? ⟨w0.heap.size, o, none⟩ = false) ∧ Bx cb (wr.setCell ⟨cb, 1, none⟩ (.int .i64 y)) W y A k c ∧
    (wr.setCell ⟨cb, 1, none⟩ (.int .i64 y)).ownsRow sb 96 3 (.slice A k c) k (flat L) ∧ Below w0.heap.size w0 (wr.setCell ⟨cb, 1, none⟩ (.int .i64 y)) := by
  have hp := h.p0
  have hp3 := h.p3
  have hs := put_grown wr ⟨cb, 1, none⟩ (.int .i64 y)
  have m0 : some cb ≠ some w0.heap.size := fun e => by cases e; omega
  refine ⟨h.q.far hs m0, fun o => ?_, ⟨by simpa using h.b.lt, ?_, ?_, ?_⟩, ownsRow_setCell_below h.sq (a := ⟨cb, 1, none⟩) (by simp; omega) _, h.below.setCell (p := ⟨cb, 1, none⟩) (by simp; omega) _⟩
  · rw [World.frozen?_setCell]; exact h.qf o
  · simp [go_sem, h.b.c0]
  · simp [go_sem, h.b.c1]
  · simp [go_sem, h.b.c2]
/-- The first of the lowest among the columns before k, in a scan from column 0 on. -/
def Scan (f : List Int) (k x : Nat) : Prop := x < f.length ∧ ∃ y, f[x]? = some y ∧ (∀ (i : Nat) u, i < k → f[i]? = some u → y ≤ u) ∧ (∀ (i : Nat) u, i < x → f[i]? = some u → y < u)
theorem Scan.start {f : List Int} (h : 0 < f.length) : Scan f 0 0 :=
  ⟨h, _, List.getElem?_eq_getElem h, fun i u hi => by omega, fun i u hi => by omega⟩
theorem Scan.on {f : List Int} {k x : Nat} {y u : Int} (h : Scan f k x) (hx : f[x]? = some y) (hk : f[k]? = some u) (hu : ¬ u < y) : Scan f (k + 1) x := by
  obtain ⟨h0, y', h1, h2, h3⟩ := h
  rw [hx] at h1; cases h1
  refine ⟨h0, y, hx, fun i v hi hv => ?_, h3⟩
  by_cases e : i = k
  · subst e; rw [hk] at hv; cases hv; omega
  · exact h2 i v (by omega) hv
theorem Scan.new {f : List Int} {k x : Nat} {y u : Int} (h : Scan f k x) (hx : f[x]? = some y) (hk : f[k]? = some u) (hu : u < y) : Scan f (k + 1) k := by
  obtain ⟨h0, y', h1, h2, h3⟩ := h
  rw [hx] at h1; cases h1
  refine ⟨(List.getElem?_eq_some_iff.1 hk).1, u, hk, fun i v hi hv => ?_, fun i v hi hv => ?_⟩
  · by_cases e : i = k
    · subst e; rw [hk] at hv; cases hv; omega
    · have := h2 i v (by omega) hv; omega
  · have := h2 i v hi hv; omega
theorem Scan.fin {f : List Int} {x : Nat} (h : Scan f f.length x) : ∃ y, FM f x y := by
  obtain ⟨h0, y, h1, h2, h3⟩ := h
  exact ⟨y, h1, fun i u hu => h2 i u (List.getElem?_eq_some_iff.1 hu).1 hu, h3⟩
end Go.Proofs.Ytebnekicbcdnaaa
