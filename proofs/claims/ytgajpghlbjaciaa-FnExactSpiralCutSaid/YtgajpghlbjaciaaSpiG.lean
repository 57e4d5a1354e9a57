/- Spirals: plain, and the memory of their making. -/
import Derived.Test.YtgajpghlbjaciaaPutB
set_option linter.all false
namespace Go.Proofs.Ytgajpghlbjaciaa
open Go.RowKit

noncomputable def spiT (d : Int) : Int × Int × List Sq × Bool :=
  if dc (1 ≤ d ∧ d ≤ 12) then ((J.spi (d.toNat - 1)).1, (J.spi (d.toNat - 1)).2.1, (J.spi (d.toNat - 1)).2.2, true) else noT
theorem spiT_yes {d : Int} (h : 1 ≤ d ∧ d ≤ 12) : spiT d = ((J.spi (d.toNat - 1)).1, (J.spi (d.toNat - 1)).2.1, (J.spi (d.toNat - 1)).2.2, true) := by simp [spiT, dc_true h]
theorem spiT_no {d : Int} (h : ¬ (1 ≤ d ∧ d ≤ 12)) : spiT d = noT := by simp [spiT, dc_false h]
theorem spiT_len (d : Int) : (spiT d).2.2.1.length ≤ 30 := by
  by_cases h : 1 ≤ d ∧ d ≤ 12
  · rw [spiT_yes h]
    have := (J.spi_good (d.toNat - 1) (by omega)).2
    show (J.spi (d.toNat - 1)).2.2.length ≤ 30
    omega
  · rw [spiT_no h]; simp [noT]
theorem spi_put (k : Nat) (hk : k + 1 < 12) : putT (J.spi k).1 (J.spi k).2.1 (J.spi k).2.2 (((k + 1) % 4 : Nat) : Int) = ((J.spi (k + 1)).1, (J.spi (k + 1)).2.1, (J.spi (k + 1)).2.2, true) := by
  obtain ⟨hG, hl⟩ := J.spi_good k (by omega)
  have hd := J.dims_small k (by omega)
  rw [← (J.spi_dims k).1, ← (J.spi_dims k).2] at hd
  rw [putT_yes hG (by omega), Mk_yes (J.fill_put (good_fill hG) hd (by omega) _)]
  rfl
/-- The memory of the making of a spiral: the result's box at B, the cut's at g. -/
structure SM (B : Nat) (w wr : World) (g : Nat) (X Y : Int) (A : Option Addr) (c : Nat) (R : List Sq) : Prop where
  bel : Below B w wr
  g0 : B < g
  r : Bx B wr 0 0 none 0 0
  fr : ∀ o, wr.frozen? ⟨B, o, none⟩ = false
  box : Bx g wr X Y A R.length c
  fx : ∀ o, wr.frozen? ⟨g, o, none⟩ = false
  own : wr.ownsRow (B + 1) 69 3 (.slice A R.length c) R.length (flat R)
  ne : ∀ k, (Value.slice A R.length c).ownBlock = some k → k ≠ g
theorem SM.keep {B : Nat} {w wr w' : World} {g : Nat} {X Y : Int} {A : Option Addr} {c : Nat} {R : List Sq} (h : SM B w wr g X Y A c R) (hb : Below wr.heap.size wr w') : SM B w w' g X Y A c R :=
  ⟨h.bel.trans (hb.mono (Nat.le_of_lt h.r.lt)), h.g0, h.r.next hb, fun o => (hb.frozen (p := ⟨B, o, none⟩) h.r.lt).trans (h.fr o), h.box.next hb, fun o => (hb.frozen (p := ⟨g, o, none⟩) h.box.lt).trans (h.fx o), own_keep h.own hb, h.ne⟩
/-- Another cut comes into the box. -/
theorem SM.put {B : Nat} {w wr w' : World} {g : Nat} {X Y : Int} {A : Option Addr} {c : Nat} {R : List Sq} (h : SM B w wr g X Y A c R) {X' Y' : Int} {A' : Option Addr} {c' base : Nat} {R' : List Sq} (ho : w'.ownsRow base 69 3 (.slice A' R'.length c') R'.length (flat R')) (hb : Below wr.heap.size wr w') (hbase : wr.heap.size ≤ base) :
    SM B w (((w'.setCell ⟨g, 0, none⟩ (.int .i64 X')).setCell ⟨g, 1, none⟩ (.int .i64 Y')).setCell ⟨g, 2, none⟩ (.slice A' R'.length c')) g X' Y' A' c' R' := by
  have h2 := h.keep hb
  obtain ⟨_, x0, x1, x2⟩ := id h2.box
  obtain ⟨_, r0, r1, r2⟩ := id h2.r
  have hg := h.box.lt
  have hne : g ≠ B := by have := h.g0; omega
  have g0 := h.g0
  refine ⟨((h2.bel.setCell (p := ⟨g, 0, none⟩) (by show B ≤ g; omega) _).setCell (p := ⟨g, 1, none⟩) (by show B ≤ g; omega) _).setCell (p := ⟨g, 2, none⟩) (by show B ≤ g; omega) _, g0, ⟨by simpa using h2.r.lt, ?_, ?_, ?_⟩, fun o => ?_, ⟨by simpa using h2.box.lt, ?_, ?_, ?_⟩, fun o => ?_, ?_, fun k hk => ?_⟩
  all_goals (try (simp [go_sem, hne, x0, x1, x2, r0, r1, r2]; done))
  · have := h2.fr o; simp [go_sem, this]
  · have := h2.fx o; simp [go_sem, this]
  · exact own_base (ownsRow_setCell_below (ownsRow_setCell_below (ownsRow_setCell_below ho (a := ⟨g, 0, none⟩) (by show g < base; omega) (.int .i64 X')) (a := ⟨g, 1, none⟩) (by show g < base; omega) (.int .i64 Y')) (a := ⟨g, 2, none⟩) (by show g < base; omega) (.slice A' R'.length c')) (by omega)
  · have := (ho.lt k hk).1
    omega
/-- What is returned. -/
theorem SM.done {B : Nat} {w wr : World} {g : Nat} {X Y : Int} {A : Option Addr} {c : Nat} {R : List Sq} (h : SM B w wr g X Y A c R) :
    Below B w (((wr.setCell ⟨B, 0, none⟩ (.int .i64 X)).setCell ⟨B, 1, none⟩ (.int .i64 Y)).setCell ⟨B, 2, none⟩ (.slice A R.length c)) ∧
    (((wr.setCell ⟨B, 0, none⟩ (.int .i64 X)).setCell ⟨B, 1, none⟩ (.int .i64 Y)).setCell ⟨B, 2, none⟩ (.slice A R.length c)).ownsRow B 69 3 (.slice A R.length c) R.length (flat R) :=
  ⟨((h.bel.setCell (p := ⟨B, 0, none⟩) (Nat.le_refl _) _).setCell (p := ⟨B, 1, none⟩) (Nat.le_refl _) _).setCell (p := ⟨B, 2, none⟩) (Nat.le_refl _) _,
    own_base (ownsRow_setCell_below (ownsRow_setCell_below (ownsRow_setCell_below h.own (a := ⟨B, 0, none⟩) (by simp) (.int .i64 X)) (a := ⟨B, 1, none⟩) (by simp) (.int .i64 Y)) (a := ⟨B, 2, none⟩) (by simp) (.slice A R.length c)) (by omega)⟩

end Go.Proofs.Ytgajpghlbjaciaa
