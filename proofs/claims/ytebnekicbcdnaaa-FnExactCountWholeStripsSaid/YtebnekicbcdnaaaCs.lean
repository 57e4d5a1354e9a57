/- The program's cuts by squares. -/
import Derived.Test.YtebnekicbcdnaaaFoM
set_option linter.all false
namespace Go.Proofs.Ytebnekicbcdnaaa
open Go.RowKit Go.Shelf
attribute [local go_sem] Oper.semAt_some

def okF (W H : Int) : Bool := inB W 1 6 && inB H 1 6
theorem okF_iff {W H : Int} : okF W H = true ↔ (1 ≤ W ∧ W ≤ 6) ∧ 1 ≤ H ∧ H ≤ 6 := by simp [okF, inB]
/-- How many cuts have 1, 2, .. squares, as the machine counts. -/
noncomputable def byF (W H : Int) : List Int := if okF W H then tally 0 (List.replicate (W.toNat * H.toNat) 0) (allF W.toNat H.toNat) else []

/-- What depends on the blocks below B alone is the loop's own beside the iterator's blocks. -/
theorem ownX_below {β : Type} (B : Nat) (p : β → World → Prop) (hp : ∀ s A C, p s A → Below B A C → p s C) : OwnX B (fun X s W => (∀ k, X k → B ≤ k) ∧ p s W) := by
  refine ⟨fun X s A C row h hg hB hr => ⟨fun k hk => ?_, hp s A C h.2 ⟨hg.os, hg.tape, hg.output, hg.size, fun k hk => hg.block k (by omega) (fun e => by have := h.1 k (hr k e.symm); omega)⟩⟩,
    fun X s A k o o' h hB hk ho => ⟨h.1, hp s A _ h.2 ((Below.refl B A).grown (grownBy_putObj' A k o') (by have := (Array.getElem?_eq_some_iff.1 hk).1; omega) (fun j e => by cases e; exact hB))⟩,
    fun X X' s A h hx => ⟨fun k hk => h.1 k (hx k hk), h.2⟩⟩
  rcases hk with hk | hk
  · exact h.1 k hk
  · omega

/-- The squares of what has come. -/
def firsts (pre : List CV) : List (List Sq) := pre.map (·.1)
theorem okC_put {B : Nat} {X : Nat → Prop} {x : CV} {A : World} {k : Nat} {o o' : Obj} (h : OkC B X x A) (hk : A.heap[k]? = some o) (ho : o.isCells = false) : OkC B X x (A.putObj k o') := by
  refine ⟨h.1.kept (grownBy_putObj' A k o') ?_, h.2⟩
  rcases h.1.2 with ⟨hv, _⟩ | ⟨g, cap, cur, hv, _, hg, _⟩
  · exact .inl (by rw [hv]; rfl)
  · refine .inr fun e => ?_
    rw [hv] at e
    cases e
    rw [show A.heap[g]? = _ from hg] at hk
    cases hk; cases ho
/-- The loop's own: the box of the list, and the list. -/
structure CM (N g Bc S : Nat) (B : List Int) (w W : World) : Prop where
  c : W.cell? ⟨Bc, 0, none⟩ = some (.slice (some ⟨g, 0, none⟩) S S)
  own : W.ownsRow N 3 1 (.slice (some ⟨g, 0, none⟩) S S) S (ints B)
  b : Below N w W
theorem CM.below {N g Bc S L : Nat} {B : List Int} {w A C : World} (h : CM N g Bc S B w A) (hb : Below L A C) (hN : N ≤ L) (h1 : Bc < L) (h2 : g < L) : CM N g Bc S B w C :=
  ⟨(hb.cell (p := ⟨Bc, 0, none⟩) h1).trans h.c, own_of_block h.own (fun k hk => by cases hk; exact hb.block g h2), h.b.trans (hb.mono hN)⟩
theorem CM.set {N g Bc S : Nat} {B : List Int} {w A : World} (h : CM N g Bc S B w A) (hN : N ≤ g) (hne : g ≠ Bc) (j : Nat) (v : Int) : CM N g Bc S (B.set j v) w (A.setCell ⟨g, j, none⟩ (.int .i64 v)) :=
  ⟨(World.cell?_setCell_other _ _ _ _ (fun e => hne (Addr.mk.inj e).1)).trans h.c, by rw [ints_set]; exact (h.own.stored j (.int .i64 v)).1, h.b.setCell (p := ⟨g, j, none⟩) hN _⟩

end Go.Proofs.Ytebnekicbcdnaaa
