/- Cuts by lines: the model's table, FewestByLines. -/
import Derived.Test.YtlfikjjdhmaemaaLineC
import Derived.Lib.Slices
set_option linter.all false
namespace Go.Proofs.Ytlfikjjdhmaemaa
open Go.RowKit
theorem least_any (a b : Int) (w : World) : Calls Try.prog 54 #[.int .i64 a, .int .i64 b] w fun e w' => e = .returned (.int .i64 (min a b)) ∧ w = w' := by
  by_cases h : a < b
  · go_enter Try.func54, Try.ntmps54
    go_wp2
    go_ret
    exact ⟨ret_int (by omega), rfl⟩
  · go_enter Try.func54, Try.ntmps54
    go_wp2
    go_ret
    exact ⟨ret_int (by omega), rfl⟩
/-- The model's table in memory: rows in blocks of their own; the numbers of D are told. -/
structure TabM (w0 wr : World) (g W H m : Nat) (rb : Nat → Nat) (D : Nat → Nat → Prop) : Prop where
  below : Below w0.heap.size w0 wr
  gl : w0.heap.size ≤ g ∧ g < wr.heap.size
  rows : ∀ x, x < m → wr.cell? ⟨g, x, none⟩ = some (.slice (some ⟨rb x, 0, none⟩) (H + 1) (H + 1))
  has : ∀ x, x ≤ W → ∃ v, wr.cell? ⟨g, x, none⟩ = some v
  gf : ∀ o, wr.frozen? ⟨g, o, none⟩ = false
  rl : ∀ x, x < m → g < rb x ∧ rb x < wr.heap.size
  inj : ∀ x y, x < m → y < m → rb x = rb y → x = y
  cells : ∀ x y, x < m → y ≤ H → ∃ v, wr.cell? ⟨rb x, y, none⟩ = some v ∧ (D x y → v = .int .i64 (best x y))
  rf : ∀ x o, x < m → wr.frozen? ⟨rb x, o, none⟩ = false
theorem TabM.val {w0 wr : World} {g W H m : Nat} {rb : Nat → Nat} {D : Nat → Nat → Prop} (h : TabM w0 wr g W H m rb D) {x y : Nat} (hx : x < m) (hy : y ≤ H) (hD : D x y) :
    wr.cell? ⟨g, x, none⟩ = some (.slice (some ⟨rb x, 0, none⟩) (H + 1) (H + 1)) ∧ wr.cell? ⟨rb x, y, none⟩ = some (.int .i64 (best x y)) ∧ True := by
  obtain ⟨v, h1, h2⟩ := h.cells x y hx hy
  rw [h2 hD] at h1
  exact ⟨h.rows x hx, h1, trivial⟩
theorem TabM.keep {w0 wr w' : World} {g W H m : Nat} {rb : Nat → Nat} {D : Nat → Nat → Prop} (h : TabM w0 wr g W H m rb D) (hb : Below wr.heap.size wr w') : TabM w0 w' g W H m rb D :=
  ⟨h.below.trans (hb.mono h.below.size), ⟨h.gl.1, Nat.lt_of_lt_of_le h.gl.2 hb.size⟩, fun x hx => (hb.cell (p := ⟨g, x, none⟩) h.gl.2).trans (h.rows x hx),
    fun x hx => (h.has x hx).imp fun v hv => (hb.cell (p := ⟨g, x, none⟩) h.gl.2).trans hv, fun o => (hb.frozen (p := ⟨g, o, none⟩) h.gl.2).trans (h.gf o),
    fun x hx => ⟨(h.rl x hx).1, Nat.lt_of_lt_of_le (h.rl x hx).2 hb.size⟩, h.inj,
    fun x y hx hy => (h.cells x y hx hy).imp fun v hv => ⟨(hb.cell (p := ⟨rb x, y, none⟩) (h.rl x hx).2).trans hv.1, hv.2⟩,
    fun x o hx => (hb.frozen (p := ⟨rb x, o, none⟩) (h.rl x hx).2).trans (h.rf x o hx)⟩
theorem TabM.less {w0 wr : World} {g W H m : Nat} {rb : Nat → Nat} {D D' : Nat → Nat → Prop} (h : TabM w0 wr g W H m rb D) (hD : ∀ x y, x < m → D' x y → D x y) : TabM w0 wr g W H m rb D' :=
  ⟨h.below, h.gl, h.rows, h.has, h.gf, h.rl, h.inj, fun x y hx hy => (h.cells x y hx hy).imp fun _ hv => ⟨hv.1, fun d => hv.2 (hD x y hx d)⟩, h.rf⟩
theorem TabM.put {w0 wr : World} {g W H m : Nat} {rb : Nat → Nat} {D : Nat → Nat → Prop} (h : TabM w0 wr g W H m rb D) {p q : Nat} (hp : p < m) :
    TabM w0 (wr.setCell ⟨rb p, q, none⟩ (.int .i64 (best p q))) g W H m rb (fun x y => D x y ∨ (x = p ∧ y = q)) := by
  have hrp := h.rl p hp
  have hgp : rb p ≠ g := by omega
  have hbel := h.below
  have hgl := h.gl
  refine ⟨h.below.setCell (p := ⟨rb p, q, none⟩) (by simp; omega) _, ⟨h.gl.1, by simpa using h.gl.2⟩, fun x hx => ?_, fun x hx => ?_, fun o => by simpa [go_sem] using h.gf o, fun x hx => ⟨(h.rl x hx).1, by simpa using (h.rl x hx).2⟩, h.inj, fun x y hx hy => ?_, fun x o hx => by simpa [go_sem] using h.rf x o hx⟩
  · have := h.rows x hx
    simp [go_sem, hgp, this]
  · obtain ⟨v, hv⟩ := h.has x hx
    exact ⟨v, by simp [go_sem, hgp, hv]⟩
  · obtain ⟨v, hv, hd⟩ := h.cells x y hx hy
    by_cases e : x = p
    · subst e
      by_cases e2 : y = q
      · subst e2
        exact ⟨_, by simp [go_sem, hv], fun _ => rfl⟩
      · have e3 : ¬ q = y := fun e => e2 e.symm
        refine ⟨v, by simp [go_sem, hv, e3], fun d => hd ?_⟩
        rcases d with d | d
        · exact d
        · exact absurd d.2 e2
    · have e3 : ¬ rb p = rb x := fun e4 => e (h.inj x p hx hp e4.symm)
      refine ⟨v, by simp [go_sem, hv, e3], fun d => hd ?_⟩
      rcases d with d | d
      · exact d
      · exact absurd d.1 e
theorem TabM.add {w0 wr : World} {g W H m r : Nat} {rb : Nat → Nat} {D : Nat → Nat → Prop} (h : TabM w0 wr g W H m rb D) (hgr : g < r) (hr : r < wr.heap.size) (hnew : ∀ x, x < m → rb x ≠ r) (hc : ∀ y, y ≤ H → ∃ v, wr.cell? ⟨r, y, none⟩ = some v) (hf : ∀ o, wr.frozen? ⟨r, o, none⟩ = false) (hm : m ≤ W) (hD : ∀ y, ¬ D m y) :
    TabM w0 (wr.setCell ⟨g, m, none⟩ (.slice (some ⟨r, 0, none⟩) (H + 1) (H + 1))) g W H (m + 1) (fun x => if x = m then r else rb x) D := by
  have hgl := h.gl
  have hgr' : ¬ g = r := by omega
  refine ⟨h.below.setCell (p := ⟨g, m, none⟩) (by simp; omega) _, ⟨h.gl.1, by simpa using h.gl.2⟩, fun x hx => ?_, fun x hx => ?_, fun o => by simpa [go_sem] using h.gf o, fun x hx => ?_, fun x y hx hy e => ?_, fun x y hx hy => ?_, fun x o hx => ?_⟩
  · by_cases e : x = m
    · subst e
      obtain ⟨v, hv⟩ := h.has x hm
      simp [go_sem, hv]
    · have e2 : ¬ m = x := fun k => e k.symm
      have := h.rows x (by omega)
      simp [go_sem, e2, e, this]
  · obtain ⟨v, hv⟩ := h.has x hx
    by_cases e : m = x
    · subst e; exact ⟨.slice (some ⟨r, 0, none⟩) (H + 1) (H + 1), by simp [go_sem, hv]⟩
    · exact ⟨v, by simp [go_sem, e, hv]⟩
  · by_cases e : x = m
    · simp [e, hgr, hr]
    · have := h.rl x (by omega)
      simp [e, this]
  · by_cases e1 : x = m
    · by_cases e2 : y = m
      · omega
      · simp [e1, e2] at e
        exact absurd e.symm (hnew y (by omega))
    · by_cases e2 : y = m
      · simp [e1, e2] at e
        exact absurd e (hnew x (by omega))
      · simp [e1, e2] at e
        exact h.inj x y (by omega) (by omega) e
  · by_cases e : x = m
    · subst e
      obtain ⟨v, hv⟩ := hc y hy
      exact ⟨v, by simp [go_sem, hgr', hv], fun d => absurd d (hD y)⟩
    · have hrl := h.rl x (by omega)
      have hgx : ¬ g = rb x := by omega
      obtain ⟨v, hv, hd⟩ := h.cells x y (by omega) hy
      exact ⟨v, by simp [go_sem, e, hgx, hv], hd⟩
  · by_cases e : x = m
    · simpa [go_sem, e] using hf o
    · simpa [go_sem, e] using h.rf x o (by omega)
def DK (H k : Nat) : Nat → Nat → Prop := fun x y => 1 ≤ x ∧ x < k ∧ 1 ≤ y ∧ y ≤ H
def DKJ (H k j : Nat) : Nat → Nat → Prop := fun x y => (1 ≤ x ∧ x < k ∧ 1 ≤ y ∧ y ≤ H) ∨ (x = k ∧ 1 ≤ y ∧ y ≤ j)
theorem infoInts : (Try.prog.info? 25).map (fun i => (i.zero, i.size, i.bytes)) = some (some (.slice none 0 0), 1, 24) := by kernel_rfl
theorem infoInt1 : (Try.prog.info? 3).map (fun i => (i.zero, i.size, i.bytes)) = some (some (.int .i64 0), 1, 8) := by kernel_rfl
set_option maxRecDepth 100000 in
set_option maxHeartbeats 32000000 in
theorem feLines_any (W H : Nat) (w : World) (hW0 : 1 ≤ W) (hW : W ≤ 60) (hH0 : 1 ≤ H) (hH : H ≤ 60) :
    Calls Try.prog 89 #[.int .i64 W, .int .i64 H] w fun e w' => ∃ g rb, e = .returned (.slice (some ⟨g, 0, none⟩) (W + 1) (W + 1)) ∧ TabM w w' g W H (W + 1) rb (DK H (W + 1)) := by
  obtain ⟨i0, hi, hz0, hz1, hz2⟩ := info_parts infoInt1
  obtain ⟨j0, hj, hy0, hy1, hy2⟩ := info_parts infoInts
  have e1 : IntKind.i64.wrap ((W : Int) + 1) = (W : Int) + 1 := IntWalk.i64_in _ (by omega)
  have e2 : IntKind.i64.wrap ((H : Int) + 1) = (H : Int) + 1 := IntWalk.i64_in _ (by omega)
  go_enter Try.func89, Try.ntmps89
  go_wp2_with (at_make; refine wpList_make_full _ rfl _ _ 50 rfl w.heap.size 25 j0 (.slice none 0 0) 1 Try.underlying50 hj hy0 hy1 .i64 .i64 ((W : Int) + 1) ((W : Int) + 1) (W + 1) rfl rfl rfl rfl (by rw [hy2]; omega) (by unfold maxLen; omega) (Nat.le_refl _) ?_; intro w1 hown hgrow)
  have hg := own_lt hown
  have hb1 : Below w.heap.size w w1 := (Below.refl _ w).grown hgrow (Nat.le_refl _) (by simp)
  obtain ⟨g, hgg⟩ : ∃ g, g = w.heap.size := ⟨_, rfl⟩
  rw [← hgg] at hg ⊢
  have hT1 : TabM w w1 g W H 0 (fun _ => 0) (DK H 0) := by
    rw [← hgg] at hown
    refine ⟨hb1, ⟨by omega, hg.2⟩, fun x hx => by omega, fun x hx => ?_, fun o => ?_, fun x hx => by omega, fun x y hx => by omega, fun x y hx => by omega, fun x o hx => by omega⟩
    · exact own_some hown (j := x) (by omega)
    · exact hown.frozenAt o
  clear hown hgrow hb1 hg hgg
  go_loopw [16] (fun i wr => ∃ (k : Nat) (rb : Nat → Nat), k ≤ W + 1 ∧ i = .int .i64 k ∧ TabM w wr g W H k rb (DK H k)) (fun i _ => W + 1 - (intOf i).toNat)
  case atStart => exact ⟨0, _, Nat.zero_le _, rfl, hT1⟩
  case round =>
    obtain ⟨k, rb0, hk, rfl, hT⟩ := hrel
    by_cases hlt : k < W + 1
    · have i1 : (k : Int) < (W : Int) + 1 := by omega
      have k0 : (0 : Int) ≤ (k : Int) := by omega
      have hws := hT.below.size
      go_wp2_with (at_make; refine wpList_make_full _ rfl _ _ 25 rfl wr.heap.size 3 i0 (.int .i64 0) 1 Try.underlying25 hi hz0 hz1 .i64 .i64 ((H : Int) + 1) ((H : Int) + 1) (H + 1) rfl rfl rfl rfl (by rw [hz2]; omega) (by unfold maxLen; omega) (Nat.le_refl _) ?_; intro w2 hown hgrow; have hb2 : Below wr.heap.size wr w2 := (Below.refl _ wr).grown hgrow (Nat.le_refl _) (by simp); have hT2 := hT.keep hb2; obtain ⟨v2, hv2⟩ := hT2.has k (by omega); have hf2 := hT2.gf k)
      have hr := own_lt hown
      have hT3 := hT2.add (r := wr.heap.size) hT.gl.2 hr.2 (fun x hx e => by have := (hT.rl x hx).2; omega) (fun y hy => own_some hown (j := y) (by omega)) (fun o => hown.frozenAt o) (by omega) (fun y hd => by unfold DK at hd; omega)
      obtain ⟨w4, hw4⟩ : ∃ w4, w4 = w2.setCell ⟨g, k, none⟩ (.slice (some ⟨wr.heap.size, 0, none⟩) (H + 1) (H + 1)) := ⟨_, rfl⟩
      obtain ⟨rb, hrb⟩ : ∃ rb, rb = (fun x => if x = k then wr.heap.size else rb0 x) := ⟨_, rfl⟩
      rw [← hw4, ← hrb] at hT3
      rw [← hw4]
      clear hw4 hrb hT hT2 hown hgrow hb2 hv2 hf2 hr hws hT1
      go_loopw [7, 8, 9, 10] (fun h _ _ _ w5 => ∃ j : Nat, j ≤ H ∧ h = .int .i64 ((j : Int) + 1) ∧ TabM w w5 g W H (k + 1) rb (DKJ H k j)) (fun h _ _ _ _ => H + 1 - (intOf h).toNat)
      case atStart => exact ⟨0, Nat.zero_le _, rfl, hT3.less fun x y hx hd => by unfold DKJ at hd; unfold DK; omega⟩
      case round =>
        obtain ⟨j, hj, rfl, hI⟩ := hrel
        by_cases hk0 : k = 0
        · subst hk0
          have hE := hI.less (D' := DK H (0 + 1)) fun x y hx hd => by unfold DK at hd; omega
          have HE := Lib.hid hE
          clear hI hE hT3
          go_wp2_with fail
          go_roundw
          case rel => exact ⟨0 + 1, rb, by omega, by simp, HE.out⟩
          case measure => simp [intOf]
        · have k1 : (0 : Int) < (k : Int) := by omega
          by_cases hlj : j < H
          · have i2 : (j : Int) + 1 ≤ (H : Int) := by omega
            have hbm := best_model (w := k) (h := j + 1) (by omega) (by omega)
            obtain ⟨P, hP⟩ : ∃ P, (k : Int) * ((j : Int) + 1) = P := ⟨_, rfl⟩
            have hP2 : (k : Int) * ((j + 1 : Nat) : Int) = P := by rw [← hP]; congr 1
            have hPb : P ≤ 3600 ∧ 0 ≤ P := by
              have h1 := Nat.mul_le_mul (show k ≤ 60 by omega) (show j + 1 ≤ 60 by omega)
              have e : ((k * (j + 1) : Nat) : Int) = (k : Int) * ((j + 1 : Nat) : Int) := by simp
              omega
            have hmul : IntKind.i64.wrap ((k : Int) * ((j : Int) + 1)) = P := by rw [hP]; exact IntWalk.i64_in _ (by omega)
            rw [hP2] at hbm
            obtain ⟨wI, hwI⟩ : ∃ wI, wI = wr := ⟨_, rfl⟩
            rw [← hwI] at hI ⊢
            have HI := Lib.hid hI
            clear hwI hI hT3 hP hP2
            by_cases hkj : k = j + 1
            · rw [if_pos hkj] at hbm
              have HBM := Lib.hid hbm
              have hq : ((k : Int) == (j : Int) + 1) = true := by simp; omega
              have hkk := Lib.hid hkj
              clear hbm hkj
              go_wp2_with fail
              go_loopw [8, 9] (fun v i w6 => ∃ a : Nat, a ≤ k / 2 ∧ v = .int .i64 (lo (1 : Int) (dn k (j + 1)) a) ∧ i = .int .i64 ((a : Int) + 1) ∧ Below wI.heap.size wI w6) (fun _ i _ => k / 2 + 1 - (intOf i).toNat)
              case atStart => exact ⟨0, Nat.zero_le _, rfl, rfl, Below.refl _ _⟩
              case round =>
                obtain ⟨a, ha, rfl, rfl, hb6⟩ := hrel
                by_cases hla : a < k / 2
                · have i3 : 2 * ((a : Int) + 1) ≤ (k : Int) := by omega
                  have hI6 := HI.out.keep hb6
                  obtain ⟨u, hu⟩ : ∃ u : Nat, (k : Int) - ((a : Int) + 1) = (u : Int) := ⟨k - (a + 1), by omega⟩
                  have hu' : k - (a + 1) = u := by omega
                  have hwr : IntKind.i64.wrap ((k : Int) - ((a : Int) + 1)) = (u : Int) := by rw [hu]; exact IntWalk.i64_in _ (by omega)
                  obtain ⟨x1, x2, x3⟩ := hI6.val (x := (a + 1)) (y := (j + 1)) (by omega) (by omega) (.inl ⟨by omega, by omega, by omega, by omega⟩)
                  obtain ⟨y1, y2, y3⟩ := hI6.val (x := u) (y := (j + 1)) (by omega) (by omega) (.inl ⟨by omega, by omega, by omega, by omega⟩)
                  have l1 := best_bnd _ (a + 1) (j + 1) (Nat.le_refl _) (by omega) (by omega)
                  have l2 := best_bnd _ u (j + 1) (Nat.le_refl _) (by omega) (by omega)
                  have eA := dn_area (w := k) (h := j + 1) (x := a + 1) (by omega) (by omega) (by omega)
                  obtain ⟨Dv, hDv⟩ : ∃ Dv, dn k (j + 1) (a + 1) = Dv := ⟨_, rfl⟩
                  have eS : best (a + 1) (j + 1) + best u (j + 1) = Dv := by
                    rw [← hDv]
                    show best (a + 1) (j + 1) + best u (j + 1) = best (a + 1) (j + 1) + best (k - (a + 1)) (j + 1)
                    rw [hu']
                  rw [hDv] at eA
                  have eA2 : Dv ≤ 3600 := Int.le_trans eA (by have := Nat.mul_le_mul (show k ≤ 60 by omega) (show j + 1 ≤ 60 by omega); have e : ((k * (j + 1) : Nat) : Int) = (k : Int) * ((j + 1 : Nat) : Int) := by simp
                                                              omega)
                  have hsum : IntKind.i64.wrap (best (a + 1) (j + 1) + best u (j + 1)) = Dv := by rw [eS]; exact IntWalk.i64_in _ (by omega)
                  have k4 : (0 : Int) ≤ (a : Int) + 1 := by omega
                  have k5 : (a : Int) + 1 < (W : Int) + 1 := by omega
                  have k6 : (0 : Int) ≤ (u : Int) := by omega
                  have k7 : (u : Int) < (W : Int) + 1 := by omega
                  have k8 : (0 : Int) ≤ (k : Int) := by omega
                  have k9 : (k : Int) < (W : Int) + 1 := by omega
                  have k10 : (0 : Int) ≤ (j : Int) + 1 := by omega
                  have k11 : (j : Int) + 1 < (H : Int) + 1 := by omega
                  have hm2 : 2 * ((a : Int) + 1) < 1000 := by omega
                  have HDv := Lib.hid hDv
                  clear hI6 hu hu' l1 l2 eA eA2 eS hDv
                  go_wp2_with fail
                  go_region_held3 (fun w' => Below wI.heap.size wI w' ∧ w'.cell? ⟨g, (a + 1), none⟩ = some (.slice (some ⟨rb (a + 1), 0, none⟩) (H + 1) (H + 1)) ∧ w'.cell? ⟨rb (a + 1), (j + 1), none⟩ = some (.int .i64 (best (a + 1) (j + 1))) ∧ w'.cell? ⟨g, u, none⟩ = some (.slice (some ⟨rb u, 0, none⟩) (H + 1) (H + 1)) ∧ w'.cell? ⟨rb u, (j + 1), none⟩ = some (.int .i64 (best u (j + 1))))
                    (first | assumption | exact ⟨hb6.drew, x1, x2, y1, y2⟩ | exact ⟨hb6, x1, x2, y1, y2⟩)
                    (first | (go_at_call 54; refine (least_any _ _ _).mono ?_; rintro e w7 ⟨rfl, rfl⟩))
                  have hbE := And.left (by assumption)
                  clear x1 x2 y1 y2
                  go_wp2_with fail
                  go_roundw
                  case rel => exact ⟨a + 1, by omega, by rw [← HDv.out]; rfl, by simp, hbE⟩
                  case measure => simp [intOf]; omega
                · obtain rfl : a = k / 2 := by omega
                  have i3 : ¬ 2 * ((((k / 2 : Nat) : Int)) + 1) ≤ (k : Int) := by omega
                  obtain ⟨M1, hM1⟩ : ∃ M1, lo (1 : Int) (dn k (j + 1)) (k / 2) = M1 := ⟨_, rfl⟩
                  rw [hM1] at HBM ⊢
                  have hbA := hb6
                  clear hM1 hb6
                  go_wp2_with fail
                  go_loopw [8, 10] (fun v i w6 => ∃ a : Nat, a ≤ (j + 1) / 2 ∧ v = .int .i64 (lo M1 (ac k (j + 1)) a) ∧ i = .int .i64 ((a : Int) + 1) ∧ Below wI.heap.size wI w6) (fun _ i _ => (j + 1) / 2 + 1 - (intOf i).toNat)
                  case atStart => exact ⟨0, Nat.zero_le _, rfl, rfl, hbA⟩
                  case round =>
                    obtain ⟨a, ha, rfl, rfl, hb6⟩ := hrel
                    by_cases hla : a < (j + 1) / 2
                    · have i3 : 2 * ((a : Int) + 1) ≤ ((j : Int) + 1) := by omega
                      have hI6 := HI.out.keep hb6
                      obtain ⟨u, hu⟩ : ∃ u : Nat, ((j : Int) + 1) - ((a : Int) + 1) = (u : Int) := ⟨(j + 1) - (a + 1), by omega⟩
                      have hu' : (j + 1) - (a + 1) = u := by omega
                      have hwr : IntKind.i64.wrap (((j : Int) + 1) - ((a : Int) + 1)) = (u : Int) := by rw [hu]; exact IntWalk.i64_in _ (by omega)
                      obtain ⟨x1, x2, x3⟩ := hI6.val (x := k) (y := (a + 1)) (by omega) (by omega) (.inr ⟨rfl, by omega, by omega⟩)
                      obtain ⟨y1, y2, y3⟩ := hI6.val (x := k) (y := u) (by omega) (by omega) (.inr ⟨rfl, by omega, by omega⟩)
                      have l1 := best_bnd _ k (a + 1) (Nat.le_refl _) (by omega) (by omega)
                      have l2 := best_bnd _ k u (Nat.le_refl _) (by omega) (by omega)
                      have eA := ac_area (w := k) (h := j + 1) (y := a + 1) (by omega) (by omega) (by omega)
                      obtain ⟨Dv, hDv⟩ : ∃ Dv, ac k (j + 1) (a + 1) = Dv := ⟨_, rfl⟩
                      have eS : best k (a + 1) + best k u = Dv := by
                        rw [← hDv]
                        show best k (a + 1) + best k u = best k (a + 1) + best k (j + 1 - (a + 1))
                        rw [hu']
                      rw [hDv] at eA
                      have eA2 : Dv ≤ 3600 := Int.le_trans eA (by have := Nat.mul_le_mul (show k ≤ 60 by omega) (show j + 1 ≤ 60 by omega); have e : ((k * (j + 1) : Nat) : Int) = (k : Int) * ((j + 1 : Nat) : Int) := by simp
                                                                  omega)
                      have hsum : IntKind.i64.wrap (best k (a + 1) + best k u) = Dv := by rw [eS]; exact IntWalk.i64_in _ (by omega)
                      have k4 : (0 : Int) ≤ (a : Int) + 1 := by omega
                      have k5 : (a : Int) + 1 < (H : Int) + 1 := by omega
                      have k6 : (0 : Int) ≤ (u : Int) := by omega
                      have k7 : (u : Int) < (H : Int) + 1 := by omega
                      have k8 : (0 : Int) ≤ (k : Int) := by omega
                      have k9 : (k : Int) < (W : Int) + 1 := by omega
                      have k10 : (0 : Int) ≤ (j : Int) + 1 := by omega
                      have k11 : (j : Int) + 1 < (H : Int) + 1 := by omega
                      have hm2 : 2 * ((a : Int) + 1) < 1000 := by omega
                      have HDv := Lib.hid hDv
                      clear hI6 hu hu' l1 l2 eA eA2 eS hDv
                      go_wp2_with fail
                      go_region_held3 (fun w' => Below wI.heap.size wI w' ∧ w'.cell? ⟨g, k, none⟩ = some (.slice (some ⟨rb k, 0, none⟩) (H + 1) (H + 1)) ∧ w'.cell? ⟨rb k, (a + 1), none⟩ = some (.int .i64 (best k (a + 1))) ∧ w'.cell? ⟨g, k, none⟩ = some (.slice (some ⟨rb k, 0, none⟩) (H + 1) (H + 1)) ∧ w'.cell? ⟨rb k, u, none⟩ = some (.int .i64 (best k u)))
                        (first | assumption | exact ⟨hb6.drew, x1, x2, y1, y2⟩ | exact ⟨hb6, x1, x2, y1, y2⟩)
                        (first | (go_at_call 54; refine (least_any _ _ _).mono ?_; rintro e w7 ⟨rfl, rfl⟩))
                      have hbE := And.left (by assumption)
                      clear x1 x2 y1 y2
                      go_wp2_with fail
                      go_roundw
                      case rel => exact ⟨a + 1, by omega, by rw [← HDv.out]; rfl, by simp, hbE⟩
                      case measure => simp [intOf]; omega
                    · obtain rfl : a = (j + 1) / 2 := by omega
                      have i3 : ¬ 2 * (((((j + 1) / 2 : Nat) : Int)) + 1) ≤ ((j : Int) + 1) := by omega
                      have hIE := HI.out.keep hb6
                      obtain ⟨z1, _⟩ := (⟨hIE.rows k (by omega), trivial⟩ : _ ∧ True)
                      obtain ⟨v0, z2, _⟩ := hIE.cells k (j + 1) (by omega) (by omega)
                      have z3 := hIE.rf k (j + 1) (by omega)
                      have k8 : (0 : Int) ≤ (k : Int) := by omega
                      have k9 : (k : Int) < (W : Int) + 1 := by omega
                      have k10 : (0 : Int) ≤ (j : Int) + 1 := by omega
                      have k11 : (j : Int) + 1 < (H : Int) + 1 := by omega
                      have HE := Lib.hid (hIE.put (p := k) (q := j + 1) (by omega))
                      rw [← HBM.out]
                      clear hIE hb6
                      go_wp2_with fail
                      go_roundw
                      case rel =>
                        refine ⟨j + 1, by omega, by simp, HE.out.less fun x y hx hd => ?_⟩
                        unfold DKJ at hd ⊢
                        omega
                      case measure => simp [intOf]; omega
            · rw [if_neg hkj] at hbm
              have HBM := Lib.hid hbm
              have hq : ((k : Int) == (j : Int) + 1) = false := by simp; omega
              have hkk := Lib.hid hkj
              clear hbm hkj
              go_wp2_with fail
              go_loopw [8, 9] (fun v i w6 => ∃ a : Nat, a ≤ k / 2 ∧ v = .int .i64 (lo P (dn k (j + 1)) a) ∧ i = .int .i64 ((a : Int) + 1) ∧ Below wI.heap.size wI w6) (fun _ i _ => k / 2 + 1 - (intOf i).toNat)
              case atStart => exact ⟨0, Nat.zero_le _, rfl, rfl, Below.refl _ _⟩
              case round =>
                obtain ⟨a, ha, rfl, rfl, hb6⟩ := hrel
                by_cases hla : a < k / 2
                · have i3 : 2 * ((a : Int) + 1) ≤ (k : Int) := by omega
                  have hI6 := HI.out.keep hb6
                  obtain ⟨u, hu⟩ : ∃ u : Nat, (k : Int) - ((a : Int) + 1) = (u : Int) := ⟨k - (a + 1), by omega⟩
                  have hu' : k - (a + 1) = u := by omega
                  have hwr : IntKind.i64.wrap ((k : Int) - ((a : Int) + 1)) = (u : Int) := by rw [hu]; exact IntWalk.i64_in _ (by omega)
                  obtain ⟨x1, x2, x3⟩ := hI6.val (x := (a + 1)) (y := (j + 1)) (by omega) (by omega) (.inl ⟨by omega, by omega, by omega, by omega⟩)
                  obtain ⟨y1, y2, y3⟩ := hI6.val (x := u) (y := (j + 1)) (by omega) (by omega) (.inl ⟨by omega, by omega, by omega, by omega⟩)
                  have l1 := best_bnd _ (a + 1) (j + 1) (Nat.le_refl _) (by omega) (by omega)
                  have l2 := best_bnd _ u (j + 1) (Nat.le_refl _) (by omega) (by omega)
                  have eA := dn_area (w := k) (h := j + 1) (x := a + 1) (by omega) (by omega) (by omega)
                  obtain ⟨Dv, hDv⟩ : ∃ Dv, dn k (j + 1) (a + 1) = Dv := ⟨_, rfl⟩
                  have eS : best (a + 1) (j + 1) + best u (j + 1) = Dv := by
                    rw [← hDv]
                    show best (a + 1) (j + 1) + best u (j + 1) = best (a + 1) (j + 1) + best (k - (a + 1)) (j + 1)
                    rw [hu']
                  rw [hDv] at eA
                  have eA2 : Dv ≤ 3600 := Int.le_trans eA (by have := Nat.mul_le_mul (show k ≤ 60 by omega) (show j + 1 ≤ 60 by omega); have e : ((k * (j + 1) : Nat) : Int) = (k : Int) * ((j + 1 : Nat) : Int) := by simp
                                                              omega)
                  have hsum : IntKind.i64.wrap (best (a + 1) (j + 1) + best u (j + 1)) = Dv := by rw [eS]; exact IntWalk.i64_in _ (by omega)
                  have k4 : (0 : Int) ≤ (a : Int) + 1 := by omega
                  have k5 : (a : Int) + 1 < (W : Int) + 1 := by omega
                  have k6 : (0 : Int) ≤ (u : Int) := by omega
                  have k7 : (u : Int) < (W : Int) + 1 := by omega
                  have k8 : (0 : Int) ≤ (k : Int) := by omega
                  have k9 : (k : Int) < (W : Int) + 1 := by omega
                  have k10 : (0 : Int) ≤ (j : Int) + 1 := by omega
                  have k11 : (j : Int) + 1 < (H : Int) + 1 := by omega
                  have hm2 : 2 * ((a : Int) + 1) < 1000 := by omega
                  have HDv := Lib.hid hDv
                  clear hI6 hu hu' l1 l2 eA eA2 eS hDv
                  go_wp2_with fail
                  go_region_held3 (fun w' => Below wI.heap.size wI w' ∧ w'.cell? ⟨g, (a + 1), none⟩ = some (.slice (some ⟨rb (a + 1), 0, none⟩) (H + 1) (H + 1)) ∧ w'.cell? ⟨rb (a + 1), (j + 1), none⟩ = some (.int .i64 (best (a + 1) (j + 1))) ∧ w'.cell? ⟨g, u, none⟩ = some (.slice (some ⟨rb u, 0, none⟩) (H + 1) (H + 1)) ∧ w'.cell? ⟨rb u, (j + 1), none⟩ = some (.int .i64 (best u (j + 1))))
                    (first | assumption | exact ⟨hb6.drew, x1, x2, y1, y2⟩ | exact ⟨hb6, x1, x2, y1, y2⟩)
                    (first | (go_at_call 54; refine (least_any _ _ _).mono ?_; rintro e w7 ⟨rfl, rfl⟩))
                  have hbE := And.left (by assumption)
                  clear x1 x2 y1 y2
                  go_wp2_with fail
                  go_roundw
                  case rel => exact ⟨a + 1, by omega, by rw [← HDv.out]; rfl, by simp, hbE⟩
                  case measure => simp [intOf]; omega
                · obtain rfl : a = k / 2 := by omega
                  have i3 : ¬ 2 * ((((k / 2 : Nat) : Int)) + 1) ≤ (k : Int) := by omega
                  obtain ⟨M1, hM1⟩ : ∃ M1, lo P (dn k (j + 1)) (k / 2) = M1 := ⟨_, rfl⟩
                  rw [hM1] at HBM ⊢
                  have hbA := hb6
                  clear hM1 hb6
                  go_wp2_with fail
                  go_loopw [8, 10] (fun v i w6 => ∃ a : Nat, a ≤ (j + 1) / 2 ∧ v = .int .i64 (lo M1 (ac k (j + 1)) a) ∧ i = .int .i64 ((a : Int) + 1) ∧ Below wI.heap.size wI w6) (fun _ i _ => (j + 1) / 2 + 1 - (intOf i).toNat)
                  case atStart => exact ⟨0, Nat.zero_le _, rfl, rfl, hbA⟩
                  case round =>
                    obtain ⟨a, ha, rfl, rfl, hb6⟩ := hrel
                    by_cases hla : a < (j + 1) / 2
                    · have i3 : 2 * ((a : Int) + 1) ≤ ((j : Int) + 1) := by omega
                      have hI6 := HI.out.keep hb6
                      obtain ⟨u, hu⟩ : ∃ u : Nat, ((j : Int) + 1) - ((a : Int) + 1) = (u : Int) := ⟨(j + 1) - (a + 1), by omega⟩
                      have hu' : (j + 1) - (a + 1) = u := by omega
                      have hwr : IntKind.i64.wrap (((j : Int) + 1) - ((a : Int) + 1)) = (u : Int) := by rw [hu]; exact IntWalk.i64_in _ (by omega)
                      obtain ⟨x1, x2, x3⟩ := hI6.val (x := k) (y := (a + 1)) (by omega) (by omega) (.inr ⟨rfl, by omega, by omega⟩)
                      obtain ⟨y1, y2, y3⟩ := hI6.val (x := k) (y := u) (by omega) (by omega) (.inr ⟨rfl, by omega, by omega⟩)
                      have l1 := best_bnd _ k (a + 1) (Nat.le_refl _) (by omega) (by omega)
                      have l2 := best_bnd _ k u (Nat.le_refl _) (by omega) (by omega)
                      have eA := ac_area (w := k) (h := j + 1) (y := a + 1) (by omega) (by omega) (by omega)
                      obtain ⟨Dv, hDv⟩ : ∃ Dv, ac k (j + 1) (a + 1) = Dv := ⟨_, rfl⟩
                      have eS : best k (a + 1) + best k u = Dv := by
                        rw [← hDv]
                        show best k (a + 1) + best k u = best k (a + 1) + best k (j + 1 - (a + 1))
                        rw [hu']
                      rw [hDv] at eA
                      have eA2 : Dv ≤ 3600 := Int.le_trans eA (by have := Nat.mul_le_mul (show k ≤ 60 by omega) (show j + 1 ≤ 60 by omega); have e : ((k * (j + 1) : Nat) : Int) = (k : Int) * ((j + 1 : Nat) : Int) := by simp
                                                                  omega)
                      have hsum : IntKind.i64.wrap (best k (a + 1) + best k u) = Dv := by rw [eS]; exact IntWalk.i64_in _ (by omega)
                      have k4 : (0 : Int) ≤ (a : Int) + 1 := by omega
                      have k5 : (a : Int) + 1 < (H : Int) + 1 := by omega
                      have k6 : (0 : Int) ≤ (u : Int) := by omega
                      have k7 : (u : Int) < (H : Int) + 1 := by omega
                      have k8 : (0 : Int) ≤ (k : Int) := by omega
                      have k9 : (k : Int) < (W : Int) + 1 := by omega
                      have k10 : (0 : Int) ≤ (j : Int) + 1 := by omega
                      have k11 : (j : Int) + 1 < (H : Int) + 1 := by omega
                      have hm2 : 2 * ((a : Int) + 1) < 1000 := by omega
                      have HDv := Lib.hid hDv
                      clear hI6 hu hu' l1 l2 eA eA2 eS hDv
                      go_wp2_with fail
                      go_region_held3 (fun w' => Below wI.heap.size wI w' ∧ w'.cell? ⟨g, k, none⟩ = some (.slice (some ⟨rb k, 0, none⟩) (H + 1) (H + 1)) ∧ w'.cell? ⟨rb k, (a + 1), none⟩ = some (.int .i64 (best k (a + 1))) ∧ w'.cell? ⟨g, k, none⟩ = some (.slice (some ⟨rb k, 0, none⟩) (H + 1) (H + 1)) ∧ w'.cell? ⟨rb k, u, none⟩ = some (.int .i64 (best k u)))
                        (first | assumption | exact ⟨hb6.drew, x1, x2, y1, y2⟩ | exact ⟨hb6, x1, x2, y1, y2⟩)
                        (first | (go_at_call 54; refine (least_any _ _ _).mono ?_; rintro e w7 ⟨rfl, rfl⟩))
                      have hbE := And.left (by assumption)
                      clear x1 x2 y1 y2
                      go_wp2_with fail
                      go_roundw
                      case rel => exact ⟨a + 1, by omega, by rw [← HDv.out]; rfl, by simp, hbE⟩
                      case measure => simp [intOf]; omega
                    · obtain rfl : a = (j + 1) / 2 := by omega
                      have i3 : ¬ 2 * (((((j + 1) / 2 : Nat) : Int)) + 1) ≤ ((j : Int) + 1) := by omega
                      have hIE := HI.out.keep hb6
                      obtain ⟨z1, _⟩ := (⟨hIE.rows k (by omega), trivial⟩ : _ ∧ True)
                      obtain ⟨v0, z2, _⟩ := hIE.cells k (j + 1) (by omega) (by omega)
                      have z3 := hIE.rf k (j + 1) (by omega)
                      have k8 : (0 : Int) ≤ (k : Int) := by omega
                      have k9 : (k : Int) < (W : Int) + 1 := by omega
                      have k10 : (0 : Int) ≤ (j : Int) + 1 := by omega
                      have k11 : (j : Int) + 1 < (H : Int) + 1 := by omega
                      have HE := Lib.hid (hIE.put (p := k) (q := j + 1) (by omega))
                      rw [← HBM.out]
                      clear hIE hb6
                      go_wp2_with fail
                      go_roundw
                      case rel =>
                        refine ⟨j + 1, by omega, by simp, HE.out.less fun x y hx hd => ?_⟩
                        unfold DKJ at hd ⊢
                        omega
                      case measure => simp [intOf]; omega
          · obtain rfl : j = H := by omega
            have i2 : ¬ (j : Int) + 1 ≤ (j : Int) := by omega
            have hE := hI.less (D' := DK j (k + 1)) fun x y hx hd => by unfold DK at hd; unfold DKJ; omega
            have HE := Lib.hid hE
            clear hI hE hT3
            go_wp2_with fail
            go_roundw
            case rel => exact ⟨k + 1, rb, by omega, by simp, HE.out⟩
            case measure => simp [intOf]; omega
    · obtain rfl : k = W + 1 := by omega
      have i1 : ¬ ((W + 1 : Nat) : Int) < (W : Int) + 1 := by omega
      go_wp2_with fail
      go_ret
      first | exact ⟨g, rb0, rfl, hT⟩ | exact ⟨g, rfl, rb0, hT⟩
end Go.Proofs.Ytlfikjjdhmaemaa
