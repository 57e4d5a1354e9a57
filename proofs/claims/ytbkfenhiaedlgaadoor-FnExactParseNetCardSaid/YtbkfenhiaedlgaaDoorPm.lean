/- The memory of the model's reading of a cut. -/
import Derived.Test.YtbkfenhiaedlgaaDoorPcP
import Derived.Test.YtbkfenhiaedlgaaDoorSpl
set_option linter.all false
namespace Go.Proofs.YtbkfenhiaedlgaaDoor
open Go.RowKit

/-- The result's box, the cut's box, the texts, the squares so far. -/
structure PM (w0 g6 : Nat) (X Y : Int) (g n c0 : Nat) (R : List (List UInt8)) (A : Option Addr) (c : Nat) (L : List Sq) (wr : World) : Prop where
  res : Bx w0 wr 0 0 none 0 0
  rf : ∀ o, wr.frozen? ⟨w0, o, none⟩ = false
  lt : w0 < g6
  box : Bx g6 wr X Y A L.length c
  bf : ∀ o, wr.frozen? ⟨g6, o, none⟩ = false
  parts : wr.ownsRow (w0 + 1) 9 1 (.slice (some ⟨g, 0, none⟩) n c0) n (txs R)
  glt : g < g6
  sq : wr.ownsRow (g6 + 1) 85 3 (.slice A L.length c) L.length (flat L)
section
variable {w0 g6 : Nat} {X Y : Int} {g n c0 : Nat} {R : List (List UInt8)} {A : Option Addr} {c : Nat} {L : List Sq} {wr : World}
theorem PM.keep (h : PM w0 g6 X Y g n c0 R A c L wr) {w' : World} (hb : Below wr.heap.size wr w') : PM w0 g6 X Y g n c0 R A c L w' :=
  ⟨h.res.next hb, fun o => (hb.frozen (p := ⟨w0, o, none⟩) h.res.lt).trans (h.rf o), h.lt, h.box.next hb, fun o => (hb.frozen (p := ⟨g6, o, none⟩) h.box.lt).trans (h.bf o), own_keep h.parts hb, h.glt, own_keep h.sq hb⟩
theorem PM.push (h : PM w0 g6 X Y g n c0 R A c L wr) {w6 : World} {A' : Option Addr} {c' : Nat} (s : Sq) (hg : wr.grownBy w6 ((.slice A L.length c : Value).ownBlock)) (ho : w6.ownsRow (g6 + 1) 85 3 (.slice A' (L.length + 1) c') (L.length + 1) (flat L ++ [.int .i64 s.x, .int .i64 s.y, .int .i64 s.d])) :
    PM w0 g6 X Y g n c0 R A' c' (L ++ [s]) (w6.setCell ⟨g6, 2, none⟩ (.slice A' (L.length + 1) c')) := by
  have hne : ∀ k, k ≤ g6 → (.slice A L.length c : Value).ownBlock ≠ some k := fun k hk e => by have := (h.sq.lt k e).1; omega
  have hsg := hg.size
  have hlt := h.lt
  have hglt := h.glt
  have r1 := h.res.far hg (hne w0 (by omega))
  have b1 := h.box.far hg (hne g6 (Nat.le_refl _))
  have p1 : w6.ownsRow (w0 + 1) 9 1 (.slice (some ⟨g, 0, none⟩) n c0) n (txs R) := by
    refine own_far h.parts hg ?_
    intro k hk
    have e : g = k := by simpa [Value.ownBlock] using hk
    rw [← e]
    exact hne g (by omega)
  have hfl : flat (L ++ [s]) = flat L ++ [.int .i64 s.x, .int .i64 s.y, .int .i64 s.d] := by simp [flat_app, flat]
  have hc : ∀ {p : Addr} {v : Value}, p.block ≠ g6 → w6.cell? p = some v → (w6.setCell ⟨g6, 2, none⟩ (.slice A' (L.length + 1) c')).cell? p = some v := fun hp h => (World.cell?_setCell_other _ _ _ _ (fun e => hp (by rw [← e]))).trans h
  refine ⟨⟨by simpa using r1.lt, hc (by show w0 ≠ g6; omega) r1.c0, hc (by show w0 ≠ g6; omega) r1.c1, hc (by show w0 ≠ g6; omega) r1.c2⟩, fun o => ?_, hlt, ⟨by simpa using b1.lt, ?_, ?_, ?_⟩, fun o => ?_, ?_, hglt, ?_⟩
  · simp only [World.frozen?_setCell]; exact (hg.frozen_far ⟨w0, o, none⟩ h.res.lt (fun e => hne w0 (by omega) e.symm)).trans (h.rf o)
  · simp [go_sem, b1.c0]
  · simp [go_sem, b1.c1]
  · rw [List.length_append]; exact World.cell?_setCell_same _ _ _ b1.c2
  · simp only [World.frozen?_setCell]; exact (hg.frozen_far ⟨g6, o, none⟩ h.box.lt (fun e => hne g6 (Nat.le_refl _) e.symm)).trans (h.bf o)
  · exact ownsRow_setCell_other p1 (by simp [Value.ownBlock]; omega) _
  · rw [List.length_append, hfl]; exact ownsRow_setCell_below ho (a := ⟨g6, 2, none⟩) (by show g6 < _; omega) _
end
end Go.Proofs.YtbkfenhiaedlgaaDoor
