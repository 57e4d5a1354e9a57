/- The memory of a net's reading. -/
import Derived.Test.YtbkfenhiaedlgaaDoorNpPl
import Derived.Test.YtbkfenhiaedlgaaDoorNetB
set_option linter.all false
namespace Go.Proofs.YtbkfenhiaedlgaaDoor
open Go.RowKit

theorem Nx.set2 {B : Nat} {w : World} {W : Int} {A : Option Addr} {n c : Nat} (h : Nx B w W A n c) (W' : Int) (A' : Option Addr) (n' c' : Nat) :
    Nx B ((w.setCell ⟨B, 0, none⟩ (.int .i64 W')).setCell ⟨B, 1, none⟩ (.slice A' n' c')) W' A' n' c' := by
  obtain ⟨l, k0, k1⟩ := h
  exact ⟨by simpa using l, by simp [go_sem, k0, k1], by simp [go_sem, k0, k1]⟩
theorem below_set2 {b : Nat} {w w' : World} (h : Below b w w') (v0 v1 : Value) : Below b w ((w'.setCell ⟨b, 0, none⟩ v0).setCell ⟨b, 1, none⟩ v1) :=
  (h.setCell (p := ⟨b, 0, none⟩) (Nat.le_refl _) v0).setCell (p := ⟨b, 1, none⟩) (Nat.le_refl _) v1
theorem new2n (w : World) (a b : Value) (t : TypeId) : ∀ j u, [a, b][j]? = some u → (w.alloc (.cells #[a, b] t)).cell? ((⟨w.heap.size, 0, none⟩ : Addr).add j) = some u := by
  intro j u hj
  match j, hj with
  | 0, hj => simp at hj; subst hj; simp [Addr.add]
  | 1, hj => simp at hj; subst hj; simp [Addr.add]
theorem one2n (a b : Int) : ∀ u ∈ [Value.int .i64 a, Value.int .i64 b], u.oneCell' = true := by
  intro u hu
  simp at hu
  rcases hu with rfl | rfl <;> rfl
/-- The result's box, the net's box, the wires so far. -/
structure PF (w0 g6 : Nat) (X : Int) (A : Option Addr) (c : Nat) (L : List Wi) (wr : World) : Prop where
  res : Nx w0 wr 0 none 0 0
  rf : ∀ o, wr.frozen? ⟨w0, o, none⟩ = false
  lt : w0 < g6
  box : Nx g6 wr X A L.length c
  bf : ∀ o, wr.frozen? ⟨g6, o, none⟩ = false
  sq : wr.ownsRow (g6 + 1) 110 2 (.slice A L.length c) L.length (flatW L)
theorem PF.keep {w0 g6 : Nat} {X : Int} {A : Option Addr} {c : Nat} {L : List Wi} {wr w' : World} (h : PF w0 g6 X A c L wr) (hb : Below wr.heap.size wr w') : PF w0 g6 X A c L w' :=
  ⟨h.res.next hb, fun o => (hb.frozen (p := ⟨w0, o, none⟩) h.res.lt).trans (h.rf o), h.lt, h.box.next hb, fun o => (hb.frozen (p := ⟨g6, o, none⟩) h.box.lt).trans (h.bf o), own_keep h.sq hb⟩
structure PY (w0 g6 : Nat) (X : Int) (g n c0 : Nat) (R : List (List UInt8)) (A : Option Addr) (c : Nat) (L : List Wi) (wr : World) : Prop where
  res : Nx w0 wr 0 none 0 0
  rf : ∀ o, wr.frozen? ⟨w0, o, none⟩ = false
  lt : w0 < g6
  box : Nx g6 wr X A L.length c
  bf : ∀ o, wr.frozen? ⟨g6, o, none⟩ = false
  parts : wr.ownsRow (g6 + 1) 9 1 (.slice (some ⟨g, 0, none⟩) n c0) n (txs R)
  glt : g6 < g
  sq : wr.ownsRow (g + 1) 110 2 (.slice A L.length c) L.length (flatW L)
section
variable {w0 g6 : Nat} {X : Int} {g n c0 : Nat} {R : List (List UInt8)} {A : Option Addr} {c : Nat} {L : List Wi} {wr : World}
theorem PY.keep (h : PY w0 g6 X g n c0 R A c L wr) {w' : World} (hb : Below wr.heap.size wr w') : PY w0 g6 X g n c0 R A c L w' :=
  ⟨h.res.next hb, fun o => (hb.frozen (p := ⟨w0, o, none⟩) h.res.lt).trans (h.rf o), h.lt, h.box.next hb, fun o => (hb.frozen (p := ⟨g6, o, none⟩) h.box.lt).trans (h.bf o), own_keep h.parts hb, h.glt, own_keep h.sq hb⟩
theorem PY.pf (h : PY w0 g6 X g n c0 R A c L wr) : PF w0 g6 X A c L wr :=
  ⟨h.res, h.rf, h.lt, h.box, h.bf, own_base h.sq (by have := h.glt; omega)⟩
theorem PY.push (h : PY w0 g6 X g n c0 R A c L wr) {w6 : World} {A' : Option Addr} {c' : Nat} (s : Wi) (hg : wr.grownBy w6 ((.slice A L.length c : Value).ownBlock)) (ho : w6.ownsRow (g + 1) 110 2 (.slice A' (L.length + 1) c') (L.length + 1) (flatW L ++ [.int .i64 s.a, .int .i64 s.b])) :
    PY w0 g6 X g n c0 R A' c' (L ++ [s]) (w6.setCell ⟨g6, 1, none⟩ (.slice A' (L.length + 1) c')) := by
  have hne : ∀ k, k ≤ g → (.slice A L.length c : Value).ownBlock ≠ some k := fun k hk e => by have := (h.sq.lt k e).1; omega
  have hsg := hg.size
  have hlt := h.lt
  have hglt := h.glt
  have r1 := h.res.far hg (hne w0 (by omega))
  have b1 := h.box.far hg (hne g6 (by omega))
  have p1 : w6.ownsRow (g6 + 1) 9 1 (.slice (some ⟨g, 0, none⟩) n c0) n (txs R) := by
    refine own_far h.parts hg ?_
    intro k hk
    have e : g = k := by simpa [Value.ownBlock] using hk
    rw [← e]
    exact hne g (Nat.le_refl _)
  have hfl : flatW (L ++ [s]) = flatW L ++ [.int .i64 s.a, .int .i64 s.b] := by simp [flatW_app, flatW]
  have hc : ∀ {p : Addr} {v : Value}, p.block ≠ g6 → w6.cell? p = some v → (w6.setCell ⟨g6, 1, none⟩ (.slice A' (L.length + 1) c')).cell? p = some v := fun hp h => (World.cell?_setCell_other _ _ _ _ (fun e => hp (by rw [← e]))).trans h
  refine ⟨⟨by simpa using r1.lt, hc (by show w0 ≠ g6; omega) r1.c0, hc (by show w0 ≠ g6; omega) r1.c1⟩, fun o => ?_, hlt, ⟨by simpa using b1.lt, ?_, ?_⟩, fun o => ?_, ?_, hglt, ?_⟩
  · simp only [World.frozen?_setCell]; exact (hg.frozen_far ⟨w0, o, none⟩ h.res.lt (fun e => hne w0 (by omega) e.symm)).trans (h.rf o)
  · simp [go_sem, b1.c0]
  · rw [List.length_append]; exact World.cell?_setCell_same _ _ _ b1.c1
  · simp only [World.frozen?_setCell]; exact (hg.frozen_far ⟨g6, o, none⟩ h.box.lt (fun e => hne g6 (by omega) e.symm)).trans (h.bf o)
  · exact ownsRow_setCell_below p1 (by show g6 < g6 + 1; omega) _
  · rw [List.length_append, hfl]; exact ownsRow_setCell_below ho (a := ⟨g6, 1, none⟩) (by show g6 < g + 1; omega) _
end
end Go.Proofs.YtbkfenhiaedlgaaDoor
