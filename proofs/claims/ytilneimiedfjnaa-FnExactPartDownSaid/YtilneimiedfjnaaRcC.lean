/- A drawn region that makes a box and puts a call's cut into it. -/
import Derived.Test.YtilneimiedfjnaaBesG
set_option linter.all false
namespace Go.Proofs.Ytilneimiedfjnaa
open Go.RowKit

theorem put3_grown (w : World) (g : Nat) (a b c : Value) : w.heap.size ≤ (((w.setCell ⟨g, 0, none⟩ a).setCell ⟨g, 1, none⟩ b).setCell ⟨g, 2, none⟩ c).heap.size := by simp
theorem putS3 {B g : Nat} {Wc wp : World} {a b c : Value} (hS : Below B Wc wp ∧ B ≤ wp.heap.size ∧ ∀ b o, b < B → wp.cell? ⟨b, o, none⟩ = Wc.cell? ⟨b, o, none⟩) (hg : B ≤ g) :
    Below B Wc (((wp.setCell ⟨g, 0, none⟩ a).setCell ⟨g, 1, none⟩ b).setCell ⟨g, 2, none⟩ c) ∧ B ≤ (((wp.setCell ⟨g, 0, none⟩ a).setCell ⟨g, 1, none⟩ b).setCell ⟨g, 2, none⟩ c).heap.size ∧ ∀ b' o, b' < B → (((wp.setCell ⟨g, 0, none⟩ a).setCell ⟨g, 1, none⟩ b).setCell ⟨g, 2, none⟩ c).cell? ⟨b', o, none⟩ = Wc.cell? ⟨b', o, none⟩ := by
  refine ⟨((hS.1.setCell (p := ⟨g, 0, none⟩) hg _).setCell (p := ⟨g, 1, none⟩) hg _).setCell (p := ⟨g, 2, none⟩) hg _, Nat.le_trans hS.2.1 (put3_grown _ _ _ _ _), fun b' o h => ?_⟩
  rw [← hS.2.2 b' o h]
  have : g ≠ b' := by omega
  simp [go_sem, this]
theorem unD {B : Nat} {a b : World} (h : Below B a.drew b) : Below B a b := ((Below.refl _ _).drew).trans h
theorem szS {Wc wp : World} (hS : Below Wc.heap.size Wc wp ∧ Wc.heap.size ≤ wp.heap.size ∧ ∀ b o, b < Wc.heap.size → wp.cell? ⟨b, o, none⟩ = Wc.cell? ⟨b, o, none⟩) : Wc.heap.size ≤ wp.heap.size := hS.2.1
theorem nx {a b c : World} (h : Below a.heap.size a b) (h2 : Below b.heap.size b c) : Below a.heap.size a c := h.trans (h2.mono h.size)
structure RQ (Wb wx : World) (g : Nat) (X Y : Int) (A0 : Option Addr) (R : List Sq) (c0 : Nat) : Prop where
  bel : Below Wb.heap.size Wb wx
  g0 : Wb.heap.size ≤ g
  box : Bx g wx X Y A0 R.length c0
  own : wx.ownsRow Wb.heap.size 65 3 (.slice A0 R.length c0) R.length (flat R)
  ne : ∀ k, (Value.slice A0 R.length c0).ownBlock = some k → k ≠ g
theorem RQ.late {Wb wE : World} {X Y : Int} {A0 : Option Addr} {R : List Sq} {c0 base : Nat} {t : TypeId} (hS : Below Wb.heap.size Wb wE) (hz : Wb.heap.size ≤ wE.heap.size)
    (o : wE.ownsRow base 65 3 (.slice A0 R.length c0) R.length (flat R)) (hb : Wb.heap.size ≤ base) : RQ Wb (wE.alloc (.cells #[.int .i64 X, .int .i64 Y, .slice A0 R.length c0] t)) wE.heap.size X Y A0 R c0 := by
  have hA : Below wE.heap.size wE (wE.alloc (.cells #[.int .i64 X, .int .i64 Y, .slice A0 R.length c0] t)) := (Below.refl _ _).alloc (Nat.le_refl _) _
  exact ⟨hS.trans (hA.mono hz), hz, Bx.start _ _ _ _ _ _ _, own_base (own_keep o hA) hb, fun k hk => by have := (o.lt k hk).2; omega⟩
theorem RQ.early {Wb wa wE : World} {X Y : Int} {A0 : Option Addr} {R : List Sq} {c0 base : Nat} {t : TypeId} {v0 v1 v2 : Value} (hz0 : Wb.heap.size ≤ wa.heap.size) (hS : Below Wb.heap.size Wb wE)
    (hz : Below (wa.alloc (.cells #[v0, v1, v2] t)).heap.size (wa.alloc (.cells #[v0, v1, v2] t)) wE)
    (o : wE.ownsRow base 65 3 (.slice A0 R.length c0) R.length (flat R)) (hb : wa.heap.size + 1 ≤ base) :
    RQ Wb (((wE.setCell ⟨wa.heap.size, 0, none⟩ (.int .i64 X)).setCell ⟨wa.heap.size, 1, none⟩ (.int .i64 Y)).setCell ⟨wa.heap.size, 2, none⟩ (.slice A0 R.length c0)) wa.heap.size X Y A0 R c0 := by
  have hs := hz.size
  simp at hs
  have e0 : wE.cell? ⟨wa.heap.size, 0, none⟩ = some v0 := (hz.cell (p := ⟨wa.heap.size, 0, none⟩) (by simp)).trans (by simp)
  have e1 : wE.cell? ⟨wa.heap.size, 1, none⟩ = some v1 := (hz.cell (p := ⟨wa.heap.size, 1, none⟩) (by simp)).trans (by simp)
  have e2 : wE.cell? ⟨wa.heap.size, 2, none⟩ = some v2 := (hz.cell (p := ⟨wa.heap.size, 2, none⟩) (by simp)).trans (by simp)
  refine ⟨((hS.setCell (p := ⟨wa.heap.size, 0, none⟩) hz0 _).setCell (p := ⟨wa.heap.size, 1, none⟩) hz0 _).setCell (p := ⟨wa.heap.size, 2, none⟩) hz0 _, hz0, ⟨Nat.lt_of_lt_of_le (show wa.heap.size < wE.heap.size by omega) (put3_grown _ _ _ _ _), by simp [go_sem, e0, e1, e2], by simp [go_sem, e0, e1, e2], by simp [go_sem, e0, e1, e2]⟩, ?_, fun k hk => by have := (o.lt k hk).1; omega⟩
  exact own_base (ownsRow_setCell_below (ownsRow_setCell_below (ownsRow_setCell_below o (a := ⟨wa.heap.size, 0, none⟩) hb (.int .i64 X)) (a := ⟨wa.heap.size, 1, none⟩) hb (.int .i64 Y)) (a := ⟨wa.heap.size, 2, none⟩) hb (.slice A0 R.length c0)) (by omega)
theorem box0 {wa wE : World} {v0 v1 v2 : Value} {t : TypeId} (hz : Below (wa.alloc (.cells #[v0, v1, v2] t)).heap.size (wa.alloc (.cells #[v0, v1, v2] t)) wE) : wE.cell? ⟨wa.heap.size, 0, none⟩ = some v0 :=
  (hz.cell (p := ⟨wa.heap.size, 0, none⟩) (by simp)).trans (by simp)
theorem box1 {wa wE : World} {v0 v1 v2 : Value} {t : TypeId} (hz : Below (wa.alloc (.cells #[v0, v1, v2] t)).heap.size (wa.alloc (.cells #[v0, v1, v2] t)) wE) : wE.cell? ⟨wa.heap.size, 1, none⟩ = some v1 :=
  (hz.cell (p := ⟨wa.heap.size, 1, none⟩) (by simp)).trans (by simp)
theorem box2 {wa wE : World} {v0 v1 v2 : Value} {t : TypeId} (hz : Below (wa.alloc (.cells #[v0, v1, v2] t)).heap.size (wa.alloc (.cells #[v0, v1, v2] t)) wE) : wE.cell? ⟨wa.heap.size, 2, none⟩ = some v2 :=
  (hz.cell (p := ⟨wa.heap.size, 2, none⟩) (by simp)).trans (by simp)
theorem boxf {wa wE : World} {v0 v1 v2 : Value} {t : TypeId} (hz : Below (wa.alloc (.cells #[v0, v1, v2] t)).heap.size (wa.alloc (.cells #[v0, v1, v2] t)) wE) (o : Nat) : wE.frozen? ⟨wa.heap.size, o, none⟩ = false :=
  (hz.frozen (p := ⟨wa.heap.size, o, none⟩) (by simp)).trans (by simp [go_sem])
end Go.Proofs.Ytilneimiedfjnaa
