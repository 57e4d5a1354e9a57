/- The model's walk over all cuts, that counts them by squares. -/
import Derived.Test.YtdpbjmdgjhleeaaFill
import Derived.Test.YtdpbjmdgjhleeaaCtG
import Derived.BigQuiet
set_option linter.all false
namespace Go.Proofs.Ytdpbjmdgjhleeaa
open Go.RowKit

/-- The walk's two lists. -/
structure WK (n0 g b Wn S : Nat) (f B : List Int) (w0 wr : World) : Prop where
  of : wr.ownsRow n0 3 1 (.slice (some ⟨g, 0, none⟩) Wn Wn) Wn (ints f)
  ob : wr.ownsRow n0 3 1 (.slice (some ⟨b, 0, none⟩) S S) S (ints B)
  bl : Below n0 w0 wr
theorem WK.keep {n0 g b Wn S : Nat} {f B : List Int} {w0 wr w' : World} (h : WK n0 g b Wn S f B w0 wr) (hb : Below wr.heap.size wr w') (hn : n0 ≤ wr.heap.size) : WK n0 g b Wn S f B w0 w' := ⟨own_keep h.of hb, own_keep h.ob hb, h.bl.trans (hb.mono hn)⟩
theorem WK.lo {n0 g b Wn S : Nat} {f B : List Int} {w0 wr : World} (h : WK n0 g b Wn S f B w0 wr) : (n0 ≤ g ∧ g < wr.heap.size) ∧ n0 ≤ b ∧ b < wr.heap.size := ⟨own_lt h.of, own_lt h.ob⟩
theorem WK.setF {n0 g b Wn S : Nat} {f B : List Int} {w0 wr : World} (h : WK n0 g b Wn S f B w0 wr) (hne : g ≠ b) (j : Nat) (v : Int) : WK n0 g b Wn S (f.set j v) B w0 (wr.setCell ⟨g, j, none⟩ (.int .i64 v)) := by
  obtain ⟨R1, R2⟩ := h.of.stored j (.int .i64 v)
  exact ⟨by rw [ints_set]; exact R1, own_far h.ob R2 (fun k hk e => by cases hk; cases e; exact hne rfl), h.bl.setCell (p := ⟨g, j, none⟩) h.lo.1.1 _⟩
theorem WK.setB {n0 g b Wn S : Nat} {f B : List Int} {w0 wr : World} (h : WK n0 g b Wn S f B w0 wr) (hne : g ≠ b) (j : Nat) (v : Int) : WK n0 g b Wn S f (B.set j v) w0 (wr.setCell ⟨b, j, none⟩ (.int .i64 v)) := by
  obtain ⟨R1, R2⟩ := h.ob.stored j (.int .i64 v)
  exact ⟨own_far h.of R2 (fun k hk e => by cases hk; cases e; exact hne rfl), by rw [ints_set]; exact R1, h.bl.setCell (p := ⟨b, j, none⟩) h.lo.2.1 _⟩
theorem WK.cf {n0 g b Wn S : Nat} {f B : List Int} {w0 wr : World} (h : WK n0 g b Wn S f B w0 wr) {j : Nat} {u : Int} (hu : f[j]? = some u) : wr.cell? ⟨g, j, none⟩ = some (.int .i64 u) := by
  have hl := h.of.1
  rw [ints_len] at hl
  rw [h.of.cellAt j (by have := (List.getElem?_eq_some_iff.1 hu).1; omega)]
  simp [ints, hu]
theorem WK.cb {n0 g b Wn S : Nat} {f B : List Int} {w0 wr : World} (h : WK n0 g b Wn S f B w0 wr) {j : Nat} {u : Int} (hu : B[j]? = some u) : wr.cell? ⟨b, j, none⟩ = some (.int .i64 u) := by
  have hl := h.ob.1
  rw [ints_len] at hl
  rw [h.ob.cellAt j (by have := (List.getElem?_eq_some_iff.1 hu).1; omega)]
  simp [ints, hu]
theorem least_any (a b : Int) (w : World) : Calls Try.prog 131 #[.int .i64 a, .int .i64 b] w fun e w' => e = .returned (.int .i64 (min a b)) ∧ w = w' := by
  by_cases h : a < b
  · have e : min a b = a := by omega
    rw [e]
    go_enter Try.func131, Try.ntmps131
    go_wp2_with fail
    go_ret
    exact ⟨rfl, rfl⟩
  · have e : min a b = b := by omega
    rw [e]
    go_enter Try.func131, Try.ntmps131
    go_wp2_with fail
    go_ret
    exact ⟨rfl, rfl⟩
/-- Lowered again. -/
theorem lift_low (f : List Int) (x s : Nat) (v : Int) : liftF (liftF f x s v) x s (-v) = f := by
  apply List.ext_getElem?
  intro i
  rw [liftF_get, liftF_get]
  cases h : f[i]? with
  | none => rfl
  | some u => simp only [Option.map_some]; split <;> first | rfl | (congr 1; omega)
/-- The room, reckoned by the columns first and by the height then. -/
theorem RM.of_cols {f : List Int} {H y : Int} {x k : Nat} (hx : x + k ≤ f.length) (hy : y ≤ H) (hl : Lvl f x k y) (hn : ¬ (x + k < f.length ∧ f[x + k]? = some y)) : RM f H x y (min (k : Int) (H - y)).toNat := by
  refine ⟨by omega, by omega, fun i h1 h2 => hl i h1 (by omega), fun hh => ?_⟩
  by_cases e : (min (k : Int) (H - y)).toNat = k
  · rw [e] at hh; exact hn ⟨hh.1, hh.2.2⟩
  · have := hh.2.1; omega

theorem free_pos {W : Nat} {H : Int} {f : List Int} (hf : Fl W H f) {x : Nat} {y : Int} (hy : f[x]? = some y) (h : y < H) : 0 < free W H f := by
  have h1 := hf.sum
  unfold free
  by_cases e : f.sum = W * H
  · have := h1.2.2 e x y hy; omega
  · omega
set_option maxRecDepth 100000 in
set_option maxHeartbeats 16000000 in
theorem walk_node (W S g b n0 m : Nat) (H : Int) (hW1 : 1 ≤ W) (hW : W ≤ 500) (hH : H ≤ 500) (hS : S ≤ 500) (hm : 1 ≤ m ∧ m ≤ 500) (hne : g ≠ b) (k : Nat)
    (IH : ∀ (k' : Nat), k = k' + 1 → ∀ (f : List Int) (c : Nat) (B : List Int) (w0 w : World), Fl W H f → free W H f ≤ k' → (0 < c ∨ 0 < free W H f) → c + free W H f ≤ S → B.length = S → WK n0 g b W S f B w0 w → Calls Try.prog 108 #[.int .i64 H, .int .i64 m, .slice (some ⟨g, 0, none⟩) W W, .int .i64 c, .slice (some ⟨b, 0, none⟩) S S] w fun e w' => e = .returned (.tuple #[]) ∧ WK n0 g b W S f (tally c B (fills m H k' f)) w0 w')
    (f : List Int) (c : Nat) (B : List Int) (w0 w : World) (hf : Fl W H f) (hk : free W H f ≤ k) (hc : 0 < c ∨ 0 < free W H f) (hcS : c + free W H f ≤ S) (hBl : B.length = S) (hK : WK n0 g b W S f B w0 w) :
    Calls Try.prog 108 #[.int .i64 H, .int .i64 m, .slice (some ⟨g, 0, none⟩) W W, .int .i64 c, .slice (some ⟨b, 0, none⟩) S S] w fun e w' => e = .returned (.tuple #[]) ∧ WK n0 g b W S f (tally c B (fills m H k f)) w0 w' := by
  have hfl := hf.len
  have HIH := Lib.hid IH
  have HF := Lib.hid hf
  have HFL := Lib.hid hfl
  have HBL := Lib.hid hBl
  clear IH hf hBl
  go_enter Try.func108, Try.ntmps108
  go_wp2_with fail
  go_loopw [10, 19] (fun xv iv wr => ∃ (j x : Nat), j ≤ W ∧ iv = .int .i64 (j : Int) ∧ xv = .int .i64 (x : Int) ∧ Scan f j x ∧ wr = w) (fun _ iv _ => W - (intOf iv).toNat)
  case atStart => exact ⟨0, 0, Nat.zero_le _, rfl, rfl, Scan.start (by omega), rfl⟩
  case round =>
    obtain ⟨j, x, hjm, rfl, rfl, hsc, rfl⟩ := hrel
    have hxl := hsc.1
    obtain ⟨y, hy⟩ : ∃ y, f[x]? = some y := ⟨_, List.getElem?_eq_getElem hxl⟩
    have xc := hK.cf hy
    have x0 : (0 : Int) ≤ (x : Int) := by omega
    have x1 : (x : Int) < (W : Int) := by omega
    have HY := Lib.hid hy
    have HSC := Lib.hid hsc
    clear hy hsc
    by_cases hjl : j < W
    · obtain ⟨u, hu⟩ : ∃ u, f[j]? = some u := ⟨_, List.getElem?_eq_getElem (by omega)⟩
      have jc := hK.cf hu
      have j0' : (0 : Int) ≤ (j : Int) := by omega
      have j1 : (j : Int) < (W : Int) := by omega
      have HU := Lib.hid hu
      clear hu
      by_cases huy : u < y
      · go_wp2_with fail
        go_roundw
        case rel => exact ⟨j + 1, j, by omega, by go_num, rfl, HSC.out.new HY.out HU.out huy, trivial⟩
        case measure => simp [intOf]; omega
      · go_wp2_with fail
        go_roundw
        case rel => exact ⟨j + 1, x, by omega, by go_num, rfl, HSC.out.on HY.out HU.out huy, trivial⟩
        case measure => simp [intOf]; omega
    · obtain rfl : W = j := by omega
      have hsf : Scan f f.length x := by rw [hfl]; exact HSC.out
      obtain ⟨y', hmn⟩ := hsf.fin
      obtain rfl : y' = y := Option.some.inj (hmn.1.symm.trans HY.out)
      have HM := Lib.hid hmn
      have hylo := HF.out.lo x y' HY.out
      have hyhi := HF.out.hi x y' HY.out
      clear hmn hsf
      cases hyH : (y' == H)
      · have HYH := Lib.hid hyH
        have hyH' : y' < H := by
          have : y' ≠ H := by simpa using hyH
          omega
        have hfr := free_pos HF.out HY.out hyH'
        obtain ⟨k, rfl⟩ : ∃ k', k = k' + 1 := ⟨k - 1, by omega⟩
        have HIK := Lib.hid (HIH.out k rfl)
        clear HIH
        go_wp2_with fail
        clear xc
        go_loopw [13] (fun v wr => ∃ (t : Nat), v = .int .i64 (t : Int) ∧ x + t ≤ W ∧ Lvl f x t y' ∧ WK n0 g b W S f B w0 wr) (fun v _ => W - (intOf v).toNat)
        case atStart => exact ⟨0, rfl, by omega, fun i h1 h2 => by omega, hK⟩
        case round =>
          obtain ⟨t, rfl, ht, hlv, hKt⟩ := hrel
          have xc := hKt.cf HY.out
          have HLV := Lib.hid hlv
          clear hlv
          by_cases htW : x + t < W
          · obtain ⟨u, hu⟩ : ∃ u, f[x + t]? = some u := ⟨_, List.getElem?_eq_getElem (by omega)⟩
            have tc := hKt.cf hu
            have i1 : (x : Int) + (t : Int) < (W : Int) := by omega
            have i0 : (0 : Int) ≤ (x : Int) + (t : Int) := by omega
            have HU := Lib.hid hu
            clear hu
            cases huy : (u == y')
            · go_wp2_with fail
              go_quiet (fail)
              have HN : ¬ (x + t < f.length ∧ f[x + t]? = some y') := fun h => by
                have := h.2
                rw [HU.out] at this
                cases this
                simp at huy
              obtain ⟨wq, hwq⟩ : ∃ wq, wq = wr.drewN nq := ⟨_, rfl⟩
              have hKq : WK n0 g b W S f B w0 wq := by rw [hwq]; exact hKt.keep (below_drewN (Below.refl _ _) nq) (Nat.le_trans hKt.lo.1.1 (Nat.le_of_lt hKt.lo.1.2))
              rw [← hwq]
              have hRM := RM.of_cols (H := H) (y := y') (x := x) (k := t) (by omega) hyhi HLV.out HN
              obtain ⟨r, hr⟩ : ∃ r : Nat, r = (min (t : Int) (H - y')).toNat := ⟨_, rfl⟩
              rw [← hr] at hRM
              have ht0 : t ≠ 0 := fun e => by subst e; exact HN ⟨by omega, by simpa using HY.out⟩
              have hr0 : r ≠ 0 := by omega
              obtain ⟨R, hR⟩ : ∃ R : Nat, R = min r m := ⟨_, rfl⟩
              have hRi : min (min (t : Int) (H - y')) (m : Int) = (R : Int) := by omega
              have hRr : R ≤ r := by omega
              have hrw := hRM.w
              have hrh := hRM.h
              have HRM := Lib.hid hRM
              have HND := Lib.hid (fills_node (m := m) (k := k) HM.out hRM hr0)
              have HRE := Lib.hid hR
              have HRI := Lib.hid hRi
              have HR0 := Lib.hid hr0
              have HRT := Lib.hid hr
              have xq := hKq.cf HY.out
              clear hwq hRM hR hRi hr0 hr hKt xc ht0
              go_wp2_with fail
              refine (least_any _ _ _).mono ?_
              rintro e w' ⟨rfl, rfl⟩
              go_wp2_with fail
              refine (least_any _ _ _).mono ?_
              rintro e w' ⟨rfl, rfl⟩
              rw [HRI.out]
              clear xq
              go_wp2_with fail
              go_loopw [14] (fun v wr => ∃ (i : Nat), i ≤ R ∧ v = .int .i64 ((i + 1 : Nat) : Int) ∧ WK n0 g b W S f (tally c B ((List.range i).flatMap (stepF m H k f x y' (fills m H)))) w0 wr) (fun v _ => R + 1 - (intOf v).toNat)
              case atStart => exact ⟨0, Nat.zero_le _, rfl, hKq⟩
              case round =>
                obtain ⟨i, hiR, rfl, hKi⟩ := hrel
                by_cases hir : i < R
                · have i1 : ((i + 1 : Nat) : Int) ≤ (R : Int) := by omega
                  obtain ⟨Bi, hBi⟩ : ∃ Bi, tally c B ((List.range i).flatMap (stepF m H k f x y' (fills m H))) = Bi := ⟨_, rfl⟩
                  rw [hBi] at hKi
                  have hBil : Bi.length = S := by rw [← hBi, tally_len]; exact HBL.out
                  have hnx := HF.out.next HM.out HRM.out (s := i + 1) (by omega)
                  have hfn := free_next HF.out HM.out HRM.out (s := i + 1) (by omega)
                  have h11 : 1 ≤ (i + 1) * (i + 1) := Nat.mul_pos (by omega) (by omega)
                  have HC := fun w => Lib.hid (HIK.out (liftF f x (i + 1) ((i + 1 : Nat) : Int)) (c + 1) Bi w0 w hnx.1 (by omega) (.inl (by omega)) (by omega) hBil)
                  have HBI := Lib.hid hBi
                  obtain ⟨wo, rfl⟩ : ∃ wo : World, wo = wr := ⟨_, rfl⟩
                  clear hBi hBil hnx hfn h11
                  go_wp2_with fail
                  go_loopw [15] (fun v wr => ∃ (t : Nat), v = .int .i64 ((x + t : Nat) : Int) ∧ t ≤ i + 1 ∧ WK n0 g b W S (liftF f x t ((i + 1 : Nat) : Int)) Bi w0 wr) (fun v _ => x + (i + 1) - (intOf v).toNat)
                  case atStart => exact ⟨0, rfl, by omega, by rw [liftF_zero]; exact hKi⟩
                  case round =>
                    obtain ⟨a, rfl, ha, hKa⟩ := hrel
                    by_cases hai : a < i + 1
                    · have i2 : ((x + a : Nat) : Int) < (x : Int) + ((i + 1 : Nat) : Int) := by omega
                      have i3 : ((x + a : Nat) : Int) < (W : Int) := by omega
                      have i4 : (0 : Int) ≤ ((x + a : Nat) : Int) := by omega
                      obtain ⟨u, hu⟩ : ∃ u, f[x + a]? = some u := ⟨_, List.getElem?_eq_getElem (by omega)⟩
                      have ulo := HF.out.lo _ _ hu
                      have uhi := HF.out.hi _ _ hu
                      have ac := hKa.cf (liftF_at f x a ((i + 1 : Nat) : Int) u hu)
                      have af := hKa.of.frozenAt (x + a)
                      have hst := liftF_succ f x a ((i + 1 : Nat) : Int) u hu
                      have HST := Lib.hid hst
                      clear hst hu
                      go_wp2_with fail
                      go_roundw
                      case rel => exact ⟨a + 1, by congr 1, by omega, by rw [HST.out]; exact hKa.setF hne _ _⟩
                      case measure => simp [intOf]; omega
                    · obtain rfl : a = i + 1 := by omega
                      have i2 : ¬ ((x + (i + 1) : Nat) : Int) < (x : Int) + ((i + 1 : Nat) : Int) := by omega
                      obtain ⟨wo2, rfl⟩ : ∃ wo2 : World, wo2 = wr := ⟨_, rfl⟩
                      go_wp2_with fail
                      refine ((HC wo2).out hKa).mono ?_
                      rintro e w5 ⟨rfl, hK5⟩
                      clear hKa
                      obtain ⟨F, hF⟩ : ∃ F, liftF f x (i + 1) ((i + 1 : Nat) : Int) = F := ⟨_, rfl⟩
                      rw [hF] at hK5
                      have hFl : F.length = W := by rw [← hF, liftF_len]; exact HFL.out
                      have hFb : ∀ (j : Nat) u, F[j]? = some u → -1000 ≤ u ∧ u ≤ 1000 := fun j u hj => by
                        rw [← hF, liftF_get] at hj
                        cases h' : f[j]? with
                        | none => rw [h'] at hj; cases hj
                        | some v =>
                          rw [h'] at hj
                          simp only [Option.map_some, Option.some.injEq] at hj
                          have := HF.out.lo _ _ h'
                          have := HF.out.hi _ _ h'
                          split at hj <;> omega
                      have hlow : liftF F x (i + 1) (-((i + 1 : Nat) : Int)) = f := by rw [← hF]; exact lift_low _ _ _ _
                      have HFF := Lib.hid hF
                      have HFLL := Lib.hid hFl
                      have HFB := Lib.hid hFb
                      have HLOW := Lib.hid hlow
                      clear hF hFl hFb hlow
                      go_wp2_with fail
                      go_loopw [16] (fun v wr => ∃ (t : Nat), v = .int .i64 ((x + t : Nat) : Int) ∧ t ≤ i + 1 ∧ WK n0 g b W S (liftF F x t (-((i + 1 : Nat) : Int))) (tally (c + 1) Bi (fills m H k (liftF f x (i + 1) ((i + 1 : Nat) : Int)))) w0 wr) (fun v _ => x + (i + 1) - (intOf v).toNat)
                      case atStart => exact ⟨0, rfl, by omega, by rw [liftF_zero, HFF.out]; exact hK5⟩
                      case round =>
                        obtain ⟨a, rfl, ha, hKa⟩ := hrel
                        by_cases hai : a < i + 1
                        · have i2 : ((x + a : Nat) : Int) < (x : Int) + ((i + 1 : Nat) : Int) := by omega
                          have i3 : ((x + a : Nat) : Int) < (W : Int) := by omega
                          have i4 : (0 : Int) ≤ ((x + a : Nat) : Int) := by omega
                          have hfl9 := HFLL.out
                          obtain ⟨u, hu⟩ : ∃ u, F[x + a]? = some u := ⟨_, List.getElem?_eq_getElem (by omega)⟩
                          have ubd := HFB.out _ _ hu
                          have ac := hKa.cf (liftF_at F x a (-((i + 1 : Nat) : Int)) u hu)
                          have af := hKa.of.frozenAt (x + a)
                          have hst := liftF_succ F x a (-((i + 1 : Nat) : Int)) u hu
                          have HST := Lib.hid hst
                          clear hst hu hfl9
                          go_wp2_with fail
                          go_roundw
                          case rel => exact ⟨a + 1, by congr 1, by omega, by rw [HST.out]; exact hKa.setF hne _ _⟩
                          case measure => simp [intOf]; omega
                        · obtain rfl : a = i + 1 := by omega
                          have i2 : ¬ ((x + (i + 1) : Nat) : Int) < (x : Int) + ((i + 1 : Nat) : Int) := by omega
                          rw [HLOW.out] at hKa
                          go_wp2_with fail
                          go_roundw
                          case rel =>
                            refine ⟨i + 1, by omega, by go_num, ?_⟩
                            rw [flatMap_range_succ, tally_app, HBI.out, stepF, tally_map]
                            exact hKa
                          case measure => simp [intOf]; omega
                · obtain rfl : i = R := by omega
                  have i1 : ¬ ((i + 1 : Nat) : Int) ≤ (i : Int) := by omega
                  go_wp2_with fail
                  go_end0
                  refine ⟨rfl, ?_⟩
                  rw [HND.out, ← HRE.out]
                  exact hKi
            · obtain rfl : u = y' := by simpa using huy
              go_wp2_with fail
              go_quiet (fail)
              go_wp2_with fail
              refine ⟨⟨t + 1, by congr 1, by omega, fun i h1 h2 => ?_, hKt.keep (below_drewN (Below.refl _ _) nq) (Nat.le_trans hKt.lo.1.1 (Nat.le_of_lt hKt.lo.1.2))⟩, by simp [intOf]; omega⟩
              by_cases e : i = x + t
              · rw [e]; exact HU.out
              · exact HLV.out i h1 (by omega)
          · have i2 : decide ((x : Int) + (t : Int) < (W : Int)) = false := by rw [decide_eq_false_iff_not]; omega
            go_wp2_with fail
            go_quiet (fail)
            have HN : ¬ (x + t < f.length ∧ f[x + t]? = some y') := fun h => by have := h.1; omega
            obtain ⟨wq, hwq⟩ : ∃ wq, wq = wr.drewN nq := ⟨_, rfl⟩
            have hKq : WK n0 g b W S f B w0 wq := by rw [hwq]; exact hKt.keep (below_drewN (Below.refl _ _) nq) (Nat.le_trans hKt.lo.1.1 (Nat.le_of_lt hKt.lo.1.2))
            rw [← hwq]
            have hRM := RM.of_cols (H := H) (y := y') (x := x) (k := t) (by omega) hyhi HLV.out HN
            obtain ⟨r, hr⟩ : ∃ r : Nat, r = (min (t : Int) (H - y')).toNat := ⟨_, rfl⟩
            rw [← hr] at hRM
            have ht0 : t ≠ 0 := fun e => by subst e; exact HN ⟨by omega, by simpa using HY.out⟩
            have hr0 : r ≠ 0 := by omega
            obtain ⟨R, hR⟩ : ∃ R : Nat, R = min r m := ⟨_, rfl⟩
            have hRi : min (min (t : Int) (H - y')) (m : Int) = (R : Int) := by omega
            have hRr : R ≤ r := by omega
            have hrw := hRM.w
            have hrh := hRM.h
            have HRM := Lib.hid hRM
            have HND := Lib.hid (fills_node (m := m) (k := k) HM.out hRM hr0)
            have HRE := Lib.hid hR
            have HRI := Lib.hid hRi
            have HR0 := Lib.hid hr0
            have HRT := Lib.hid hr
            have xq := hKq.cf HY.out
            clear hwq hRM hR hRi hr0 hr hKt xc ht0
            go_wp2_with fail
            refine (least_any _ _ _).mono ?_
            rintro e w' ⟨rfl, rfl⟩
            go_wp2_with fail
            refine (least_any _ _ _).mono ?_
            rintro e w' ⟨rfl, rfl⟩
            rw [HRI.out]
            clear xq
            go_wp2_with fail
            go_loopw [14] (fun v wr => ∃ (i : Nat), i ≤ R ∧ v = .int .i64 ((i + 1 : Nat) : Int) ∧ WK n0 g b W S f (tally c B ((List.range i).flatMap (stepF m H k f x y' (fills m H)))) w0 wr) (fun v _ => R + 1 - (intOf v).toNat)
            case atStart => exact ⟨0, Nat.zero_le _, rfl, hKq⟩
            case round =>
              obtain ⟨i, hiR, rfl, hKi⟩ := hrel
              by_cases hir : i < R
              · have i1 : ((i + 1 : Nat) : Int) ≤ (R : Int) := by omega
                obtain ⟨Bi, hBi⟩ : ∃ Bi, tally c B ((List.range i).flatMap (stepF m H k f x y' (fills m H))) = Bi := ⟨_, rfl⟩
                rw [hBi] at hKi
                have hBil : Bi.length = S := by rw [← hBi, tally_len]; exact HBL.out
                have hnx := HF.out.next HM.out HRM.out (s := i + 1) (by omega)
                have hfn := free_next HF.out HM.out HRM.out (s := i + 1) (by omega)
                have h11 : 1 ≤ (i + 1) * (i + 1) := Nat.mul_pos (by omega) (by omega)
                have HC := fun w => Lib.hid (HIK.out (liftF f x (i + 1) ((i + 1 : Nat) : Int)) (c + 1) Bi w0 w hnx.1 (by omega) (.inl (by omega)) (by omega) hBil)
                have HBI := Lib.hid hBi
                obtain ⟨wo, rfl⟩ : ∃ wo : World, wo = wr := ⟨_, rfl⟩
                clear hBi hBil hnx hfn h11
                go_wp2_with fail
                go_loopw [15] (fun v wr => ∃ (t : Nat), v = .int .i64 ((x + t : Nat) : Int) ∧ t ≤ i + 1 ∧ WK n0 g b W S (liftF f x t ((i + 1 : Nat) : Int)) Bi w0 wr) (fun v _ => x + (i + 1) - (intOf v).toNat)
                case atStart => exact ⟨0, rfl, by omega, by rw [liftF_zero]; exact hKi⟩
                case round =>
                  obtain ⟨a, rfl, ha, hKa⟩ := hrel
                  by_cases hai : a < i + 1
                  · have i2 : ((x + a : Nat) : Int) < (x : Int) + ((i + 1 : Nat) : Int) := by omega
                    have i3 : ((x + a : Nat) : Int) < (W : Int) := by omega
                    have i4 : (0 : Int) ≤ ((x + a : Nat) : Int) := by omega
                    obtain ⟨u, hu⟩ : ∃ u, f[x + a]? = some u := ⟨_, List.getElem?_eq_getElem (by omega)⟩
                    have ulo := HF.out.lo _ _ hu
                    have uhi := HF.out.hi _ _ hu
                    have ac := hKa.cf (liftF_at f x a ((i + 1 : Nat) : Int) u hu)
                    have af := hKa.of.frozenAt (x + a)
                    have hst := liftF_succ f x a ((i + 1 : Nat) : Int) u hu
                    have HST := Lib.hid hst
                    clear hst hu
                    go_wp2_with fail
                    go_roundw
                    case rel => exact ⟨a + 1, by congr 1, by omega, by rw [HST.out]; exact hKa.setF hne _ _⟩
                    case measure => simp [intOf]; omega
                  · obtain rfl : a = i + 1 := by omega
                    have i2 : ¬ ((x + (i + 1) : Nat) : Int) < (x : Int) + ((i + 1 : Nat) : Int) := by omega
                    obtain ⟨wo2, rfl⟩ : ∃ wo2 : World, wo2 = wr := ⟨_, rfl⟩
                    go_wp2_with fail
                    refine ((HC wo2).out hKa).mono ?_
                    rintro e w5 ⟨rfl, hK5⟩
                    clear hKa
                    obtain ⟨F, hF⟩ : ∃ F, liftF f x (i + 1) ((i + 1 : Nat) : Int) = F := ⟨_, rfl⟩
                    rw [hF] at hK5
                    have hFl : F.length = W := by rw [← hF, liftF_len]; exact HFL.out
                    have hFb : ∀ (j : Nat) u, F[j]? = some u → -1000 ≤ u ∧ u ≤ 1000 := fun j u hj => by
                      rw [← hF, liftF_get] at hj
                      cases h' : f[j]? with
                      | none => rw [h'] at hj; cases hj
                      | some v =>
                        rw [h'] at hj
                        simp only [Option.map_some, Option.some.injEq] at hj
                        have := HF.out.lo _ _ h'
                        have := HF.out.hi _ _ h'
                        split at hj <;> omega
                    have hlow : liftF F x (i + 1) (-((i + 1 : Nat) : Int)) = f := by rw [← hF]; exact lift_low _ _ _ _
                    have HFF := Lib.hid hF
                    have HFLL := Lib.hid hFl
                    have HFB := Lib.hid hFb
                    have HLOW := Lib.hid hlow
                    clear hF hFl hFb hlow
                    go_wp2_with fail
                    go_loopw [16] (fun v wr => ∃ (t : Nat), v = .int .i64 ((x + t : Nat) : Int) ∧ t ≤ i + 1 ∧ WK n0 g b W S (liftF F x t (-((i + 1 : Nat) : Int))) (tally (c + 1) Bi (fills m H k (liftF f x (i + 1) ((i + 1 : Nat) : Int)))) w0 wr) (fun v _ => x + (i + 1) - (intOf v).toNat)
                    case atStart => exact ⟨0, rfl, by omega, by rw [liftF_zero, HFF.out]; exact hK5⟩
                    case round =>
                      obtain ⟨a, rfl, ha, hKa⟩ := hrel
                      by_cases hai : a < i + 1
                      · have i2 : ((x + a : Nat) : Int) < (x : Int) + ((i + 1 : Nat) : Int) := by omega
                        have i3 : ((x + a : Nat) : Int) < (W : Int) := by omega
                        have i4 : (0 : Int) ≤ ((x + a : Nat) : Int) := by omega
                        have hfl9 := HFLL.out
                        obtain ⟨u, hu⟩ : ∃ u, F[x + a]? = some u := ⟨_, List.getElem?_eq_getElem (by omega)⟩
                        have ubd := HFB.out _ _ hu
                        have ac := hKa.cf (liftF_at F x a (-((i + 1 : Nat) : Int)) u hu)
                        have af := hKa.of.frozenAt (x + a)
                        have hst := liftF_succ F x a (-((i + 1 : Nat) : Int)) u hu
                        have HST := Lib.hid hst
                        clear hst hu hfl9
                        go_wp2_with fail
                        go_roundw
                        case rel => exact ⟨a + 1, by congr 1, by omega, by rw [HST.out]; exact hKa.setF hne _ _⟩
                        case measure => simp [intOf]; omega
                      · obtain rfl : a = i + 1 := by omega
                        have i2 : ¬ ((x + (i + 1) : Nat) : Int) < (x : Int) + ((i + 1 : Nat) : Int) := by omega
                        rw [HLOW.out] at hKa
                        go_wp2_with fail
                        go_roundw
                        case rel =>
                          refine ⟨i + 1, by omega, by go_num, ?_⟩
                          rw [flatMap_range_succ, tally_app, HBI.out, stepF, tally_map]
                          exact hKa
                        case measure => simp [intOf]; omega
              · obtain rfl : i = R := by omega
                have i1 : ¬ ((i + 1 : Nat) : Int) ≤ (i : Int) := by omega
                go_wp2_with fail
                go_end0
                refine ⟨rfl, ?_⟩
                rw [HND.out, ← HRE.out]
                exact hKi
      · obtain rfl : y' = H := by simpa using hyH
        have hr0 : RM f y' x y' 0 := ⟨by omega, by omega, fun i h1 h2 => by omega, fun hh => by omega⟩
        have hdone := HF.out.done HM.out hr0
        have hfr : free W y' f = 0 := by unfold free; rw [hdone]; omega
        have HFR := Lib.hid (fills_leaf (m := m) (k := k) HM.out hr0)
        obtain ⟨d, rfl⟩ : ∃ d, c = d + 1 := ⟨c - 1, by omega⟩
        obtain ⟨u, hu⟩ : ∃ u, B[d]? = some u := ⟨_, List.getElem?_eq_getElem (by have := HBL.out; omega)⟩
        have dc := hK.cb hu
        have df := hK.ob.frozenAt d
        have d0 : (0 : Int) ≤ (d : Int) := by omega
        have d1 : (d : Int) < (S : Int) := by omega
        have HU := Lib.hid hu
        clear hu hdone hfr hr0
        go_wp2_with fail
        refine bodyPost_ret (v := .tuple #[]) (by simp [results, Try.results108]) rfl ⟨rfl, ?_⟩
        rw [HFR.out]
        show WK n0 g b W S f (bump B (d + 1 + 0 - 1)) w0 _
        rw [show d + 1 + 0 - 1 = d by omega]
        unfold bump
        rw [show B.getD d 0 = u by simp [List.getD, HU.out]]
        exact hK.setB hne d _
end Go.Proofs.Ytdpbjmdgjhleeaa
