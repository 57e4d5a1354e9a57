/- SpiG, SpiI, Spi: texts in one. -/
import Derived.Test.YtnnhgblgbbfmpaaPutB
set_option linter.all false
namespace Go.Proofs.Ytnnhgblgbbfmpaa
open Go.RowKit

noncomputable def spiT (d : Int) : Int × Int × List Sq × Bool :=
  if dc (1 ≤ d ∧ d ≤ 12) then ((J.spi (d.toNat - 1)).1, (J.spi (d.toNat - 1)).2.1, (J.spi (d.toNat - 1)).2.2, true) else noT
theorem spiT_yes {d : Int} (h : 1 ≤ d ∧ d ≤ 12) : spiT d = ((J.spi (d.toNat - 1)).1, (J.spi (d.toNat - 1)).2.1, (J.spi (d.toNat - 1)).2.2, true) := by simp [spiT, dc_true h]
theorem spiT_no {d : Int} (h : ¬ (1 ≤ d ∧ d ≤ 12)) : spiT d = noT := by simp [spiT, dc_false h]
theorem spiT_len (d : Int) : (spiT d).2.2.1.length ≤ 30 := by
  by_cases h : 1 ≤ d ∧ d ≤ 12
  · rw [spiT_yes h]
    have := (J.spi_good (d.toNat - 1) (by omega)).2
    show (J.spi (d.toNat - 1)).2.2.length ≤ 30
    omega
  · rw [spiT_no h]; simp [noT]
theorem spi_put (k : Nat) (hk : k + 1 < 12) : putT (J.spi k).1 (J.spi k).2.1 (J.spi k).2.2 (((k + 1) % 4 : Nat) : Int) = ((J.spi (k + 1)).1, (J.spi (k + 1)).2.1, (J.spi (k + 1)).2.2, true) := by
  obtain ⟨hG, hl⟩ := J.spi_good k (by omega)
  have hd := J.dims_small k (by omega)
  rw [← (J.spi_dims k).1, ← (J.spi_dims k).2] at hd
  rw [putT_yes hG (by omega), Mk_yes (J.fill_put (good_fill hG) hd (by omega) _)]
  rfl
/-- The memory of the making of a spiral: the result's box at B, the cut's at g. -/
structure SM (B : Nat) (w wr : World) (g : Nat) (X Y : Int) (A : Option Addr) (c : Nat) (R : List Sq) : Prop where
  bel : Below B w wr
  g0 : B < g
  r : Bx B wr 0 0 none 0 0
  fr : ∀ o, wr.frozen? ⟨B, o, none⟩ = false
  box : Bx g wr X Y A R.length c
  fx : ∀ o, wr.frozen? ⟨g, o, none⟩ = false
  own : wr.ownsRow (B + 1) 71 3 (.slice A R.length c) R.length (flat R)
  ne : ∀ k, (Value.slice A R.length c).ownBlock = some k → k ≠ g
theorem SM.keep {B : Nat} {w wr w' : World} {g : Nat} {X Y : Int} {A : Option Addr} {c : Nat} {R : List Sq} (h : SM B w wr g X Y A c R) (hb : Below wr.heap.size wr w') : SM B w w' g X Y A c R :=
  ⟨h.bel.trans (hb.mono (Nat.le_of_lt h.r.lt)), h.g0, h.r.next hb, fun o => (hb.frozen (p := ⟨B, o, none⟩) h.r.lt).trans (h.fr o), h.box.next hb, fun o => (hb.frozen (p := ⟨g, o, none⟩) h.box.lt).trans (h.fx o), own_keep h.own hb, h.ne⟩
/-- Another cut comes into the box. -/
theorem SM.put {B : Nat} {w wr w' : World} {g : Nat} {X Y : Int} {A : Option Addr} {c : Nat} {R : List Sq} (h : SM B w wr g X Y A c R) {X' Y' : Int} {A' : Option Addr} {c' base : Nat} {R' : List Sq} (ho : w'.ownsRow base 71 3 (.slice A' R'.length c') R'.length (flat R')) (hb : Below wr.heap.size wr w') (hbase : wr.heap.size ≤ base) :
    SM B w (((w'.setCell ⟨g, 0, none⟩ (.int .i64 X')).setCell ⟨g, 1, none⟩ (.int .i64 Y')).setCell ⟨g, 2, none⟩ (.slice A' R'.length c')) g X' Y' A' c' R' := by
  have h2 := h.keep hb
  obtain ⟨_, x0, x1, x2⟩ := id h2.box
  obtain ⟨_, r0, r1, r2⟩ := id h2.r
  have hg := h.box.lt
  have hne : g ≠ B := by have := h.g0; omega
  have g0 := h.g0
  refine ⟨((h2.bel.setCell (p := ⟨g, 0, none⟩) (by show B ≤ g; omega) _).setCell (p := ⟨g, 1, none⟩) (by show B ≤ g; omega) _).setCell (p := ⟨g, 2, none⟩) (by show B ≤ g; omega) _, g0, ⟨by simpa using h2.r.lt, ?_, ?_, ?_⟩, fun o => ?_, ⟨by simpa using h2.box.lt, ?_, ?_, ?_⟩, fun o => ?_, ?_, fun k hk => ?_⟩
  all_goals (try (simp [go_sem, hne, x0, x1, x2, r0, r1, r2]; done))
  · have := h2.fr o; simp [go_sem, this]
  · have := h2.fx o; simp [go_sem, this]
  · exact own_base (ownsRow_setCell_below (ownsRow_setCell_below (ownsRow_setCell_below ho (a := ⟨g, 0, none⟩) (by show g < base; omega) (.int .i64 X')) (a := ⟨g, 1, none⟩) (by show g < base; omega) (.int .i64 Y')) (a := ⟨g, 2, none⟩) (by show g < base; omega) (.slice A' R'.length c')) (by omega)
  · have := (ho.lt k hk).1
    omega
/-- What is returned. -/
theorem SM.done {B : Nat} {w wr : World} {g : Nat} {X Y : Int} {A : Option Addr} {c : Nat} {R : List Sq} (h : SM B w wr g X Y A c R) :
    Below B w (((wr.setCell ⟨B, 0, none⟩ (.int .i64 X)).setCell ⟨B, 1, none⟩ (.int .i64 Y)).setCell ⟨B, 2, none⟩ (.slice A R.length c)) ∧
    (((wr.setCell ⟨B, 0, none⟩ (.int .i64 X)).setCell ⟨B, 1, none⟩ (.int .i64 Y)).setCell ⟨B, 2, none⟩ (.slice A R.length c)).ownsRow B 71 3 (.slice A R.length c) R.length (flat R) :=
  ⟨((h.bel.setCell (p := ⟨B, 0, none⟩) (Nat.le_refl _) _).setCell (p := ⟨B, 1, none⟩) (Nat.le_refl _) _).setCell (p := ⟨B, 2, none⟩) (Nat.le_refl _) _,
    own_base (ownsRow_setCell_below (ownsRow_setCell_below (ownsRow_setCell_below h.own (a := ⟨B, 0, none⟩) (by simp) (.int .i64 X)) (a := ⟨B, 1, none⟩) (by simp) (.int .i64 Y)) (a := ⟨B, 2, none⟩) (by simp) (.slice A R.length c)) (by omega)⟩

end Go.Proofs.Ytnnhgblgbbfmpaa
namespace Go.Proofs.Ytnnhgblgbbfmpaa
open Go.RowKit

set_option maxRecDepth 100000 in
set_option maxHeartbeats 400000 in
theorem implSpiral_any (d : Int) (w : World) : Calls Try.prog 54 #[.int .i64 d] w (RetT w (spiT d)) := by
  obtain ⟨W1, hW1⟩ : ∃ W1, W1 = w.alloc (.cells #[.int .i64 0, .int .i64 0, .slice none 0 0] 28) := ⟨_, rfl⟩
  have hs1 : W1.heap.size = w.heap.size + 1 := by rw [hW1]; simp
  have br : Bx w.heap.size W1 0 0 none 0 0 := by rw [hW1]; exact Bx.start _ _ _ _ _ _ _
  have hf : ∀ o, W1.frozen? ⟨w.heap.size, o, none⟩ = false := by intro o; rw [hW1]; exact World.frozen?_alloc_at _ _ _ _ rfl
  have HB : Below w.heap.size w W1 := by rw [hW1]; exact (Below.refl _ _).alloc (Nat.le_refl _) _
  by_cases h : 1 ≤ d ∧ d ≤ 12
  · obtain ⟨m, rfl⟩ : ∃ m : Nat, d = m := ⟨d.toNat, by omega⟩
    have em : ((m : Int)).toNat = m := by simp
    have d1 : decide ((m : Int) < 1) = false := decide_eq_false (by omega)
    have d2 : decide (12 < (m : Int)) = false := decide_eq_false (by omega)
    rw [spiT_yes h, em]
    go_enter Try.func54, Try.ntmps54
    go_wp2_with fail
    rw [← hW1]
    clear hW1
    refine (implOne_any 1 W1).mono ?_
    rintro e w2 ⟨A2, c2, rfl, o2, hb2⟩
    rw [oneW_yes (by decide), oneL_yes (by decide)] at *
    have hs2 := hb2.size
    have M0 : SM w.heap.size w (w2.alloc (.cells #[.int .i64 1, .int .i64 1, .slice A2 1 c2] 28)) w2.heap.size 1 1 A2 c2 [⟨0, 0, 1⟩] := by
      have hb3 : Below w2.heap.size w2 (w2.alloc (.cells #[.int .i64 1, .int .i64 1, .slice A2 1 c2] 28)) := (Below.refl _ _).alloc (Nat.le_refl _) _
      exact ⟨HB.trans ((hb2.mono (by omega)).trans (hb3.mono (by omega))), by omega, (br.next hb2).next hb3, fun o => (hb3.frozen (p := ⟨w.heap.size, o, none⟩) (by show w.heap.size < _; omega)).trans ((hb2.frozen (p := ⟨w.heap.size, o, none⟩) (by show w.heap.size < _; omega)).trans (hf o)), Bx.start _ _ _ _ _ _ _, fun o => World.frozen?_alloc_at _ _ _ _ rfl, own_keep (own_base o2 (by omega)) hb3, fun k hk => by have := (o2.lt k hk).2; omega⟩
    go_wp2_with fail
    go_loopw [6] (fun i wr => ∃ (k : Nat) (A3 : Option Addr) (c3 : Nat), k + 1 ≤ m ∧ i = .int .i64 ((k + 1 : Nat) : Int) ∧ SM w.heap.size w wr (w2.heap.size) (J.spi k).1 (J.spi k).2.1 A3 c3 (J.spi k).2.2) (fun i _ => m - (intOf i).toNat)
    case atStart => exact ⟨0, A2, c2, by omega, rfl, M0⟩
    case round =>
      obtain ⟨k, A3, c3, hk, rfl, M⟩ := hrel
      obtain ⟨_, x0, x1, x2⟩ := id M.box
      have hGk := (J.spi_good k (by omega)).1
      by_cases hlt : k + 1 < m
      · have hlI : ((k + 1 : Nat) : Int) < (m : Int) := by omega
        have hsp := spi_put k (by omega)
        have e4 : (((k + 1) % 4 : Nat) : Int) = ((k : Int) + 1) % 4 := by omega
        rw [e4] at hsp
        have hk4 : 0 ≤ ((k : Int) + 1) % 4 ∧ ((k : Int) + 1) % 4 ≤ 3 := by omega
        have hwf : ∀ s ∈ (J.spi k).2.2, wfS s := fun s hs => by have h1 := (good_fill hGk).within s hs; have h2 := hGk.1; have h3 := hGk.2.1; unfold Within at h1; exact wf_small (m := 500) (by decide) (by omega)
        go_wp2_with fail
        refine (implPut_any (J.spi k).1 (J.spi k).2.1 A3 _ c3 (J.spi k).2.2 (((k : Int) + 1) % 4) wr rfl (own_cap M.own) (sqs_of_own M.own) hwf).mono ?_
        rw [hsp]
        rintro e w4 ⟨A4, c4, rfl, o4, hb4⟩
        have M4 := M.keep hb4
        have M5 := M.put (X' := (J.spi (k + 1)).1) (Y' := (J.spi (k + 1)).2.1) o4 hb4 (Nat.le_refl _)
        have f0 := M4.fx 0
        have f1 := M4.fx 1
        have f2 := M4.fx 2
        obtain ⟨_, x0', x1', x2'⟩ := id M4.box
        clear x0 x1 x2
        go_wp2_with fail
        go_roundw
        case rel => exact ⟨k + 1, A4, c4, by omega, by go_num, M5⟩
        case measure => simp [intOf]; omega
      · obtain rfl : k + 1 = m := by omega
        have hlI : ¬ ((k + 1 : Nat) : Int) < ((k + 1 : Nat) : Int) := by omega
        obtain ⟨_, r0, r1, r2⟩ := id M.r
        have t0 := M.fr 0
        have t1 := M.fr 1
        have t2 := M.fr 2
        have hg0 := M.g0
        obtain ⟨e1, e2⟩ := M.done
        rw [show k + 1 - 1 = k from rfl]
        go_wp2_with fail
        refine bodyPost_ret (v := .tuple #[.agg #[.int .i64 (J.spi k).1, .int .i64 (J.spi k).2.1, .slice A3 (J.spi k).2.2.length c3], .bool true]) (by simp [results, Try.results54, go_sem, r0, r1, r2]) rfl ?_
        exact ⟨A3, c3, rfl, e2, e1⟩
  · rw [spiT_no h]
    have ⟨_, r0, r1, r2⟩ := br
    have t0 := hf 0
    have t1 := hf 1
    have t2 := hf 2
    have e1 := ((HB.setCell (p := ⟨w.heap.size, 0, none⟩) (by simp) (.int .i64 0)).setCell (p := ⟨w.heap.size, 1, none⟩) (by simp) (.int .i64 0)).setCell (p := ⟨w.heap.size, 2, none⟩) (by simp) (.slice none 0 0)
    by_cases h1 : d < 1
    · have d1 : decide (d < 1) = true := decide_eq_true h1
      go_enter Try.func54, Try.ntmps54
      go_wp2_with fail
      try rw [← hW1]
      refine bodyPost_ret (v := .tuple #[.agg #[.int .i64 0, .int .i64 0, .slice none 0 0], .bool false]) (by simp [results, Try.results54, go_sem, r0, r1, r2]) rfl ?_
      exact RetT.no (by first | exact HB | exact e1 | (rw [hW1] at e1; exact e1))
    · have d1 : decide (d < 1) = false := decide_eq_false h1
      have d2 : decide (12 < d) = true := decide_eq_true (by omega)
      go_enter Try.func54, Try.ntmps54
      go_wp2_with fail
      try rw [← hW1]
      refine bodyPost_ret (v := .tuple #[.agg #[.int .i64 0, .int .i64 0, .slice none 0 0], .bool false]) (by simp [results, Try.results54, go_sem, r0, r1, r2]) rfl ?_
      exact RetT.no (by first | exact HB | exact e1 | (rw [hW1] at e1; exact e1))

end Go.Proofs.Ytnnhgblgbbfmpaa
namespace Go.Proofs.Ytnnhgblgbbfmpaa
open Go.RowKit

set_option maxRecDepth 100000 in
set_option maxHeartbeats 400000 in
theorem specSpiral_any (d : Int) (w : World) : Calls Try.prog 53 #[.int .i64 d] w (RetT w (spiT d)) := by
  obtain ⟨W1, hW1⟩ : ∃ W1, W1 = w.alloc (.cells #[.int .i64 0, .int .i64 0, .slice none 0 0] 28) := ⟨_, rfl⟩
  have hs1 : W1.heap.size = w.heap.size + 1 := by rw [hW1]; simp
  have br : Bx w.heap.size W1 0 0 none 0 0 := by rw [hW1]; exact Bx.start _ _ _ _ _ _ _
  have hf : ∀ o, W1.frozen? ⟨w.heap.size, o, none⟩ = false := by intro o; rw [hW1]; exact World.frozen?_alloc_at _ _ _ _ rfl
  have HB : Below w.heap.size w W1 := by rw [hW1]; exact (Below.refl _ _).alloc (Nat.le_refl _) _
  by_cases h : 1 ≤ d ∧ d ≤ 12
  · obtain ⟨m, rfl⟩ : ∃ m : Nat, d = m := ⟨d.toNat, by omega⟩
    have em : ((m : Int)).toNat = m := by simp
    have d1 := Lib.hid (inB_iff.2 h)
    rw [spiT_yes h, em]
    go_enter Try.func53, Try.ntmps53
    go_wp2_with fail
    rw [← hW1]
    refine (l1In_any _ _ _ W1).mono ?_
    rw [d1.out]
    rintro e w' ⟨rfl, rfl⟩
    clear hW1
    have M0 : SM w.heap.size w ((W1.alloc (.cells #[.int .i64 0, .int .i64 0, .int .i64 1] 71)).alloc (.cells #[.int .i64 1, .int .i64 1, .slice (some ⟨w.heap.size + 1, 0, none⟩) 1 1] 28)) (w.heap.size + 2) 1 1 (some ⟨w.heap.size + 1, 0, none⟩) 1 [⟨0, 0, 1⟩] := by
      obtain ⟨W2, hW2⟩ : ∃ W2, W2 = W1.alloc (.cells #[.int .i64 0, .int .i64 0, .int .i64 1] 71) := ⟨_, rfl⟩
      have hb2 : Below W1.heap.size W1 W2 := by rw [hW2]; exact (Below.refl _ _).alloc (Nat.le_refl _) _
      have hs2 : W2.heap.size = w.heap.size + 2 := by rw [hW2]; simp; omega
      have o2 : W2.ownsRow (w.heap.size + 1) 71 3 (.slice (some ⟨w.heap.size + 1, 0, none⟩) 1 1) 1 (flat [⟨0, 0, 1⟩]) := by
        have := World.ownsRow_lit (base := w.heap.size + 1) (e := 71) (size := 3) W1 #[.int .i64 0, .int .i64 0, .int .i64 1] 1 (by omega) (by decide) rfl
        rw [hs1] at this
        rw [hW2]
        simpa [flat] using this
      rw [← hW2]
      have hb3 : Below W2.heap.size W2 (W2.alloc (.cells #[.int .i64 1, .int .i64 1, .slice (some ⟨w.heap.size + 1, 0, none⟩) 1 1] 28)) := (Below.refl _ _).alloc (Nat.le_refl _) _
      have bb := Bx.start W2 1 1 (some ⟨w.heap.size + 1, 0, none⟩) 1 1 28
      rw [hs2] at bb
      exact ⟨HB.trans ((hb2.mono (by omega)).trans (hb3.mono (by omega))), by omega, (br.next hb2).next hb3, fun o => (hb3.frozen (p := ⟨w.heap.size, o, none⟩) (by show w.heap.size < _; omega)).trans ((hb2.frozen (p := ⟨w.heap.size, o, none⟩) (by show w.heap.size < _; omega)).trans (hf o)), bb, fun o => World.frozen?_alloc_at _ _ _ _ hs2.symm, own_keep o2 hb3, fun k hk => by simp [Value.ownBlock] at hk; omega⟩
    go_wp2_with fail
    go_loopw [5] (fun i wr => ∃ (k : Nat) (A3 : Option Addr) (c3 : Nat), k + 1 ≤ m ∧ i = .int .i64 ((k + 1 : Nat) : Int) ∧ SM w.heap.size w wr (w.heap.size + 2) (J.spi k).1 (J.spi k).2.1 A3 c3 (J.spi k).2.2) (fun i _ => m - (intOf i).toNat)
    case atStart => exact ⟨0, some ⟨w.heap.size + 1, 0, none⟩, 1, by omega, rfl, M0⟩
    case round =>
      obtain ⟨k, A3, c3, hk, rfl, M⟩ := hrel
      obtain ⟨_, x0, x1, x2⟩ := id M.box
      have hGk := (J.spi_good k (by omega)).1
      by_cases hlt : k + 1 < m
      · have hlI : ((k + 1 : Nat) : Int) < (m : Int) := by omega
        have hsp := spi_put k (by omega)
        have e4 : (((k + 1) % 4 : Nat) : Int) = ((k : Int) + 1) % 4 := by omega
        rw [e4] at hsp
        have hk4 : 0 ≤ ((k : Int) + 1) % 4 ∧ ((k : Int) + 1) % 4 ≤ 3 := by omega
        have hwf : ∀ s ∈ (J.spi k).2.2, wfS s := fun s hs => by have h1 := (good_fill hGk).within s hs; have h2 := hGk.1; have h3 := hGk.2.1; unfold Within at h1; exact wf_small (m := 500) (by decide) (by omega)
        go_wp2_with fail
        refine (joPut_any (J.spi k).1 (J.spi k).2.1 A3 _ c3 (J.spi k).2.2 (((k : Int) + 1) % 4) wr rfl (sqs_of_own M.own) hGk hk4).mono ?_
        rw [hsp]
        rintro e w4 ⟨A4, c4, rfl, o4, hb4⟩
        have hb5 : Below w4.heap.size w4 (w4.alloc (.cells #[.int .i64 (J.spi (k + 1)).1, .int .i64 (J.spi (k + 1)).2.1, .slice A4 (J.spi (k + 1)).2.2.length c4] 28)) := (Below.refl _ _).alloc (Nat.le_refl _) _
        have M4 := M.keep hb4
        have M5 := (M.put (X' := (J.spi (k + 1)).1) (Y' := (J.spi (k + 1)).2.1) o4 hb4 (Nat.le_refl _)).keep ((Below.refl _ _).alloc (Nat.le_refl _) (.cells #[.int .i64 (J.spi (k + 1)).1, .int .i64 (J.spi (k + 1)).2.1, .slice A4 (J.spi (k + 1)).2.2.length c4] 28))
        have f0 := M4.fx 0
        have f1 := M4.fx 1
        have f2 := M4.fx 2
        obtain ⟨xl, x0', x1', x2'⟩ := id M4.box
        clear x0 x1 x2
        go_wp2_with fail
        go_roundw
        case rel => exact ⟨k + 1, A4, c4, by omega, by go_num, M5⟩
        case measure => simp [intOf]; omega
      · obtain rfl : k + 1 = m := by omega
        have hlI : ¬ ((k + 1 : Nat) : Int) < ((k + 1 : Nat) : Int) := by omega
        obtain ⟨_, r0, r1, r2⟩ := id M.r
        have t0 := M.fr 0
        have t1 := M.fr 1
        have t2 := M.fr 2
        have hg0 := M.g0
        obtain ⟨e1, e2⟩ := M.done
        rw [show k + 1 - 1 = k from rfl]
        go_wp2_with fail
        refine bodyPost_ret (v := .tuple #[.agg #[.int .i64 (J.spi k).1, .int .i64 (J.spi k).2.1, .slice A3 (J.spi k).2.2.length c3], .bool true]) (by simp [results, Try.results53, go_sem, r0, r1, r2]) rfl ?_
        exact ⟨A3, c3, rfl, e2, e1⟩
  · rw [spiT_no h]
    have ⟨_, r0, r1, r2⟩ := br
    have t0 := hf 0
    have t1 := hf 1
    have t2 := hf 2
    have e1 := ((HB.setCell (p := ⟨w.heap.size, 0, none⟩) (by simp) (.int .i64 0)).setCell (p := ⟨w.heap.size, 1, none⟩) (by simp) (.int .i64 0)).setCell (p := ⟨w.heap.size, 2, none⟩) (by simp) (.slice none 0 0)
    have hd : Hid (inB d 1 12 = false) := by show inB _ _ _ = false; simp [inB]; omega
    go_enter Try.func53, Try.ntmps53
    go_wp2_with fail
    rw [← hW1]
    refine (l1In_any _ _ _ W1).mono ?_
    rw [hd.out]
    rintro e w' ⟨rfl, rfl⟩
    go_wp2_with fail
    refine bodyPost_ret (v := .tuple #[.agg #[.int .i64 0, .int .i64 0, .slice none 0 0], .bool false]) (by simp [results, Try.results53, go_sem, r0, r1, r2]) rfl ?_
    exact RetT.no (by first | exact HB | exact e1 | (rw [hW1] at HB; exact HB))

end Go.Proofs.Ytnnhgblgbbfmpaa
