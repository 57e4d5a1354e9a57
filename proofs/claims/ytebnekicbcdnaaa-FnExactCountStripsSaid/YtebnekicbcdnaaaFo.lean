/- The program's recursive filling: every way of filling is handed to the loop, one after the other. -/
import Derived.Test.YtebnekicbcdnaaaRfx
import Derived.Test.YtebnekicbcdnaaaFf
import Derived.Test.YtebnekicbcdnaaaCvd
import Derived.Test.YtebnekicbcdnaaaCutOfI
import Derived.Test.YtebnekicbcdnaaaLast
import Derived.Shelf.RegionOpen
import Derived.TacticsInMore
import Derived.LoopNIn
import Derived.LoopIn
import Derived.Deep.DeepCutAuto
set_option linter.all false
namespace Go.Proofs.Ytebnekicbcdnaaa
open Go.RowKit Go.Shelf
attribute [local go_sem] Oper.semAt_some

/-- What the loop holds, and where the iterator's blocks lie. -/
structure JB (J : (Nat → Prop) → List CV → World → Prop) (B : Nat) (X : Nat → Prop) (s : List CV) (W : World) : Prop where
  j : J X s W
  x : ∀ k, X k → B ≤ k ∧ k < W.heap.size
  b : B ≤ W.heap.size
theorem JB.grow {J : (Nat → Prop) → List CV → World → Prop} {B : Nat} {X : Nat → Prop} {s : List CV} {A C : World} {row : Option Nat} (h : JB J B X s A) (hJ : AbX J) (hg : A.grownBy C row) (hr : ∀ r, row = some r → X r) : JB J B (newX X A C) s C :=
  ⟨hJ.grow _ _ _ _ _ h.j hg hr, fun k hk => by
    rcases hk with hk | hk
    · have := h.x k hk; have := hg.size; omega
    · have := h.b; omega, by have := h.b; have := hg.size; omega⟩
theorem JB.less {J : (Nat → Prop) → List CV → World → Prop} {B : Nat} {X X' : Nat → Prop} {s : List CV} {A : World} (h : JB J B X s A) (hJ : AbX J) (hx : ∀ k, X' k → X k) : JB J B X' s A := ⟨hJ.less _ _ _ _ h.j hx, fun k hk => h.x k (hx k hk), h.b⟩
theorem grown_belowF {A C : World} (h : Below A.heap.size A C) : A.grownBy C none := ⟨h.os, h.tape, h.output, h.size, fun k hk _ => h.block k hk⟩
theorem grown_put (A : World) (p : Addr) (v : Value) : A.grownBy (A.setCell p v) (some p.block) := put_grown A p v

/-- What comes of filling on. -/
def FillPost (J Jx : (Nat → Prop) → List CV → World → Prop) (B : Nat) (X : Nat → Prop) (pre : List CV) (L : List Sq) (A : Option Addr) (n c : Nat) (R : List (List Sq)) (W : World) (e : Ending) (W' : World) : Prop :=
  (e = .returned (.bool true) ∧ ∃ (X' : Nat → Prop) (ys : List CV), (∀ k, X k → X' k) ∧ ys.map (·.1) = R.map (L ++ ·) ∧ JB J B X' (pre ++ ys) W' ∧ W.heap.size ≤ W'.heap.size ∧
    (∀ k, X k → some k ≠ (Value.slice A n c).ownBlock → W'.heap[k]? = W.heap[k]?) ∧ W'.ownsRow B 96 3 (.slice A n c) n (flat L)) ∨
  (e = .returned (.bool false) ∧ ∃ (X' : Nat → Prop) (ys : List CV) (zs : List (List Sq)), ys.map (·.1) ++ zs = R.map (L ++ ·) ∧ Jx X' (pre ++ ys) W' ∧ W.heap.size ≤ W'.heap.size ∧ (∀ k, X k → some k ≠ (Value.slice A n c).ownBlock → W'.heap[k]? = W.heap[k]?))

theorem room_free {F : Fence} (h : F.depth = none) (k : Nat) : F.room k := fun d e => by rw [h] at e; cases e
theorem yield_any {F : Fence} (h : F.depth = none) {m : Nat} (m' : Nat) {P : Program} {l : Nat} {args : Array Value} {W : World} {R : Ending → World → Prop} (hy : YieldAt F m P l args W R) : YieldAt F m' P l args W R := by
  obtain ⟨fn, tmps, assign, body, h1, h2, h3⟩ := hy
  exact ⟨fn, tmps, assign, body, h1, h2, fun c cs _ => h3 c cs (room_free h _)⟩

/-- The call's two boxes: the cut under way, and the line. -/
structure FB (w : World) (W H : Int) (v : Value) (g : List Int) (wr : World) : Prop where
  c0 : wr.cell? ⟨w.heap.size, 0, none⟩ = some (.int .i64 W)
  c1 : wr.cell? ⟨w.heap.size, 1, none⟩ = some (.int .i64 H)
  c2 : wr.cell? ⟨w.heap.size, 2, none⟩ = some v
  cf : ∀ o, wr.frozen? ⟨w.heap.size, o, none⟩ = false
  l : Cols wr (w.heap.size + 1) g
  sz : w.heap.size + 2 ≤ wr.heap.size
theorem FB.keep {w wr w' : World} {W H : Int} {v : Value} {g : List Int} (h : FB w W H v g wr) (hs : wr.heap.size ≤ w'.heap.size) (h1 : w'.heap[w.heap.size]? = wr.heap[w.heap.size]?) (h2 : w'.heap[w.heap.size + 1]? = wr.heap[w.heap.size + 1]?) : FB w W H v g w' :=
  ⟨(World.cell?_of_block (a := ⟨w.heap.size, 0, none⟩) h1).trans h.c0, (World.cell?_of_block (a := ⟨w.heap.size, 1, none⟩) h1).trans h.c1, (World.cell?_of_block (a := ⟨w.heap.size, 2, none⟩) h1).trans h.c2, fun o => (World.frozen?_of_block (a := ⟨w.heap.size, o, none⟩) h1).trans (h.cf o),
    fun j u hu => (World.cell?_of_block (a := ⟨w.heap.size + 1, j, none⟩) h2).trans (h.l j u hu), Nat.le_trans h.sz hs⟩
theorem FB.below {w wr w' : World} {W H : Int} {v : Value} {g : List Int} (h : FB w W H v g wr) (hb : Below wr.heap.size wr w') : FB w W H v g w' := h.keep hb.size (hb.block _ (by have := h.sz; omega)) (hb.block _ (by have := h.sz; omega))
theorem FB.put {w wr : World} {W H : Int} {v : Value} {g : List Int} (h : FB w W H v g wr) (u : Value) : FB w W H u g (wr.setCell ⟨w.heap.size, 2, none⟩ u) := by
  have ne : ∀ o, o ≠ 2 → (⟨w.heap.size, 2, none⟩ : Addr) ≠ ⟨w.heap.size, o, none⟩ := fun o ho e => ho (Addr.mk.inj e).2.1.symm
  exact ⟨(World.cell?_setCell_other _ _ _ _ (ne 0 (by decide))).trans h.c0, (World.cell?_setCell_other _ _ _ _ (ne 1 (by decide))).trans h.c1, World.cell?_setCell_same _ _ _ h.c2, fun o => by rw [World.frozen?_setCell]; exact h.cf o,
    fun j q hq => (World.cell?_setCell_other _ _ _ _ (fun e => by have := (Addr.mk.inj e).1; omega)).trans (h.l j q hq), by simpa [World.setCell] using h.sz⟩
/-- The first free cell, asked of the line's box in whatever later world. -/
theorem free_later {W : Nat} {H : Int} {f : List Int} {x r b : Nat} {y : Int} {g : List Int} {W1 : World} (hf : Fl W H f) (hW1 : 1 ≤ W) (hW : W ≤ 13) (hH : H ≤ 500) (hm : FM f x y) (hr : RM f H x y r) (hg : pad f = g) (hl : Cols W1 b g) (hb : b + 1 ≤ W1.heap.size) (u : Later W1.heap.size W1) :
    Calls Try.prog 103 #[.slice (some ⟨b, 0, none⟩) W 13, .int .i64 H] u.val fun e w' => e = .returned (.tuple #[.int .i64 x, .int .i64 y, .int .i64 r]) ∧ u.val = w' :=
  firstFree_any W H f x r y hf hW1 (by omega) hH hm hr b 13 u.val (Nat.lt_of_lt_of_le (by omega) u.ok.size) (fun j v hj => (u.ok.cell (p := ⟨b, j, none⟩) (by show b < _; omega)).trans (hl j v (by rw [← hg, pad_get (List.getElem?_eq_some_iff.1 hj).1]; exact hj)))

end Go.Proofs.Ytebnekicbcdnaaa
