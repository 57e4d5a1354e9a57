/- The model's tables of ways. -/
import Derived.Test.YtebnekicbcdnaaaSm
set_option linter.all false
namespace Go.Proofs.Ytebnekicbcdnaaa
open Go.RowKit

/-- The side that is left out. -/
def wq (wo : Nat) (d : Nat) : Bool := d == wo
/-- A table of ways: -1 is not known yet. -/
structure TW (N wo h H b0 : Nat) (g : Nat → Nat) (w : World) : Prop where
  lo : N ≤ b0 ∧ ∀ l, l ≤ H → N ≤ g l
  out : ∀ l, l ≤ H → w.cell? ⟨b0, l, none⟩ = some (.slice (some ⟨g l, 0, none⟩) (4 ^ h) (4 ^ h))
  row : ∀ l, l ≤ H → ∃ cur, w.heap[g l]? = some (.cells cur 3 (0, 0)) ∧ ∀ s, s < 4 ^ h → ∃ v, cur[s]? = some (.int .i64 v) ∧ (v = -1 ∨ StS h l s ∧ v = ((vS (wq wo) h H l s : Nat) : Int))
  inj : ∀ l l', l ≤ H → l' ≤ H → g l = g l' → l = l'
  ne : ∀ l, l ≤ H → g l ≠ b0
  lt : b0 < w.heap.size
theorem TW.glt {N wo h H b0 : Nat} {g : Nat → Nat} {w : World} (T : TW N wo h H b0 g w) {l : Nat} (hl : l ≤ H) : g l < w.heap.size := by
  obtain ⟨cur, h1, _⟩ := T.row l hl
  exact (Array.getElem?_eq_some_iff.1 h1).1
theorem TW.cell {N wo h H b0 : Nat} {g : Nat → Nat} {w : World} (T : TW N wo h H b0 g w) {l s : Nat} (hl : l ≤ H) (hs : s < 4 ^ h) : ∃ v, w.cell? ⟨g l, s, none⟩ = some (.int .i64 v) ∧ w.frozen? ⟨g l, s, none⟩ = false ∧ (v = -1 ∨ StS h l s ∧ v = ((vS (wq wo) h H l s : Nat) : Int)) := by
  obtain ⟨cur, h1, h2⟩ := T.row l hl
  obtain ⟨v, h3, h4⟩ := h2 s hs
  exact ⟨v, by simp [World.cell?, h1, h3], by simp [World.frozen?, h1], h4⟩
theorem heap_set {w : World} {b o : Nat} {v : Value} {cur : Array Value} {e : TypeId} {fr : Nat × Nat} (h : w.heap[b]? = some (.cells cur e fr)) : (w.setCell ⟨b, o, none⟩ v).heap[b]? = some (.cells (cur.setIfInBounds o v) e fr) := by
  simp [World.setCell, Array.getElem?_modify, h]
theorem TW.set {N wo h H b0 : Nat} {g : Nat → Nat} {w : World} (T : TW N wo h H b0 g w) {l s : Nat} (hl : l ≤ H) (hs : s < 4 ^ h) (hS : StS h l s) : TW N wo h H b0 g (w.setCell ⟨g l, s, none⟩ (.int .i64 ((vS (wq wo) h H l s : Nat) : Int))) := by
  have hne := T.ne l hl
  refine ⟨T.lo, fun k hk => ?_, fun k hk => ?_, T.inj, T.ne, by simpa [World.setCell] using T.lt⟩
  · rw [World.cell?_setCell_far _ _ _ _ (by simpa using hne)]
    exact T.out k hk
  · by_cases e : k = l
    · subst e
      obtain ⟨cur, h1, h2⟩ := T.row k hk
      refine ⟨_, heap_set h1, fun s' hs' => ?_⟩
      by_cases e2 : s = s'
      · subst e2
        obtain ⟨v, h3, _⟩ := h2 s hs'
        have := (Array.getElem?_eq_some_iff.1 h3).1
        exact ⟨_, by simp [this], .inr ⟨hS, rfl⟩⟩
      · obtain ⟨v, h3, h4⟩ := h2 s' hs'
        exact ⟨v, by rw [Array.getElem?_setIfInBounds_ne e2]; exact h3, h4⟩
    · obtain ⟨cur, h1, h2⟩ := T.row k hk
      have : g k ≠ g l := fun e' => e (T.inj k l hk hl e')
      exact ⟨cur, by rw [Below.heap_setCell _ _ _ _ this]; exact h1, h2⟩
theorem TW.keep {N wo h H b0 : Nat} {g : Nat → Nat} {w w' : World} (T : TW N wo h H b0 g w) (hb : Below w.heap.size w w') : TW N wo h H b0 g w' := by
  refine ⟨T.lo, fun l hl => (hb.cell (p := ⟨b0, l, none⟩) T.lt).trans (T.out l hl), fun l hl => ?_, T.inj, T.ne, Nat.lt_of_lt_of_le T.lt hb.size⟩
  obtain ⟨cur, h1, h2⟩ := T.row l hl
  exact ⟨cur, (hb.block _ (T.glt hl)).trans h1, h2⟩
/-- What stCount returns. -/
def RetW (N wo h H b0 : Nat) (g : Nat → Nat) (w : World) (v : Nat) (e : Ending) (w' : World) : Prop := e = .returned (.int .i64 (v : Int)) ∧ TW N wo h H b0 g w' ∧ Below N w w'
/-- The call, where less grows. -/
def CountsTo (N wo h H b0 c0 : Nat) (g : Nat → Nat) (n : Nat) : Prop := ∀ (left s : Nat) (w : World), mu h H left s < n → left ≤ H → StS h left s → TW N wo h H b0 g w → Calls Try.prog 51 #[.slice (some ⟨b0, 0, none⟩) (H + 1) c0, .int .i64 h, .int .i64 left, .int .i64 s, .int .i64 wo] w (RetW N wo h H b0 g w (vS (wq wo) h H left s))
set_option maxRecDepth 100000 in
set_option maxHeartbeats 2000000 in
theorem side_any (N wo h H b0 c0 : Nat) (g : Nat → Nat) (n : Nat) (IH : CountsTo N wo h H b0 c0 g n) (hh : h ≤ 4) (hH : H ≤ 30) (left s row d : Nat) (w : World) (hmu : mu h H left s ≤ n) (hl : left ≤ H) (hS : StS h left s) (hf : FR h s row) (hd1 : 1 ≤ d) (hd : d ≤ h) (T : TW N wo h H b0 g w) :
    Calls Try.prog 80 #[.slice (some ⟨b0, 0, none⟩) (H + 1) c0, .int .i64 h, .int .i64 left, .int .i64 s, .int .i64 row, .int .i64 d, .int .i64 wo] w (RetW N wo h H b0 g w (tV (wq wo) h H left s row d)) := by
  have hrow := hf.1
  by_cases h4 : d = 4
  · subst h4
    have h44 : h = 4 := by omega
    subst h44
    by_cases hs : s = 0
    · subst hs
      have hr0 : row = 0 := by
        apply Classical.byContradiction
        intro hn
        have := hf.2.2 0 (by omega)
        rw [dg_nil] at this
        omega
      subst hr0
      by_cases hl4 : 4 ≤ left
      · have hok : OkP 4 left 0 0 4 := ⟨by omega, hl4, fun k _ _ => dg_nil k⟩
        have hv : tV (wq wo) 4 H left 0 0 4 = vS (wq wo) 4 H (left - 4) 0 := by unfold tV; rw [dc_true hok, if_pos rfl, if_pos rfl]
        have hm := mu_put (H := H) hh hS hf hl (by omega) hok
        rw [if_pos rfl] at hm
        have C := IH (left - 4) 0 w (by omega) (by omega) (StS.nil 4 _ (by decide)) T
        rw [hv]
        obtain ⟨l4, hl4e⟩ : ∃ l4, left = l4 + 4 := ⟨left - 4, by omega⟩
        subst hl4e
        rw [Nat.add_sub_cancel] at C ⊢
        have HC := Lib.hid C
        have e4 : ¬ ((l4 + 4 : Nat) : Int) < 4 := by omega
        have e5 : ((l4 + 4 : Nat) : Int) - 4 = (l4 : Int) := by omega
        have e6 : ((l4 + 4 : Nat) : Int) ≤ 30 := by omega
        have e7 : (0 : Int) ≤ ((l4 + 4 : Nat) : Int) := by omega
        clear C hv hm hok hS hf IH T hmu
        go_enter Try.func80, Try.ntmps80
        go_wp2_with fail
        refine HC.out.mono ?_
        rintro e w2 ⟨rfl, T2, hb2⟩
        have HT := Lib.hid T2
        have HB := Lib.hid hb2
        clear T2 hb2
        go_wp2_with fail
        go_ret
        exact ⟨rfl, HT.out, HB.out⟩
      · have hno : ¬ OkP 4 left 0 0 4 := fun k => hl4 k.2.1
        have hv : tV (wq wo) 4 H left 0 0 4 = 0 := by unfold tV; rw [dc_false hno]; rfl
        have HV := Lib.hid hv
        have HT := Lib.hid T
        have e4 : (left : Int) < 4 := by omega
        clear hv hno hS hf IH T hmu
        go_enter Try.func80, Try.ntmps80
        go_wp2_with fail
        go_ret
        exact ⟨by rw [HV.out]; rfl, HT.out, Below.refl _ _⟩
    · have hno : ¬ OkP 4 left s row 4 := fun k => hs (prof_four (H := H) hS hh k).2.2.1
      have hv : tV (wq wo) 4 H left s row 4 = 0 := by unfold tV; rw [dc_false hno]; rfl
      have HV := Lib.hid hv
      have HT := Lib.hid T
      have e4 : ((s : Int) != 0) = true := by simp; omega
      clear hv hno hS hf IH T hmu
      go_enter Try.func80, Try.ntmps80
      go_wp2_with fail
      go_ret
      exact ⟨by rw [HV.out]; rfl, HT.out, Below.refl _ _⟩
  · have hd3 : d ≤ 3 := by omega
    have C1 := stPut_any s h left row d hh (by omega) hS.lt hrow hd1 hd3 w
    have e4 : ((d : Int) == 4) = false := by simp; omega
    by_cases hok : OkP h left s row d
    · have hv : tV (wq wo) h H left s row d = vS (wq wo) h H left (putN s row d d) := by unfold tV; rw [dc_true hok, if_pos rfl, if_neg h4]
      have hp : putV h left s row d = ((putN s row d d : Nat) : Int) := by unfold putV; rw [dc_true hok]; rfl
      have hm := mu_put (H := H) hh hS hf hl hd1 hok
      rw [if_neg h4] at hm
      have C := IH left (putN s row d d) w (by omega) hl (hS.put hh hd3 hok) T
      rw [hp, dc_true hok] at C1
      rw [hv]
      obtain ⟨s2, hs2⟩ : ∃ s2, putN s row d d = s2 := ⟨_, rfl⟩
      rw [hs2] at C C1 ⊢
      have HC := Lib.hid C
      have HC1 := Lib.hid C1
      clear C C1 hv hp hm hok hS hf IH T hmu hs2
      go_enter Try.func80, Try.ntmps80
      go_wp2_with fail
      refine HC1.out.mono ?_
      rintro e w1 ⟨rfl, hw1⟩
      rw [← hw1]
      clear hw1 w1
      go_wp2_with fail
      refine HC.out.mono ?_
      rintro e w2 ⟨rfl, T2, hb2⟩
      have HT := Lib.hid T2
      have HB := Lib.hid hb2
      clear T2 hb2
      go_wp2_with fail
      go_ret
      exact ⟨rfl, HT.out, HB.out⟩
    · have hv : tV (wq wo) h H left s row d = 0 := by unfold tV; rw [dc_false hok]; rfl
      rw [dc_false hok] at C1
      have HV := Lib.hid hv
      have HT := Lib.hid T
      have HC1 := Lib.hid C1
      clear C1 hv hok hS hf IH T hmu
      go_enter Try.func80, Try.ntmps80
      go_wp2_with fail
      refine HC1.out.mono ?_
      rintro e w1 ⟨rfl, hw1⟩
      rw [← hw1]
      clear hw1 w1
      go_wp2_with fail
      go_ret
      exact ⟨by rw [HV.out]; rfl, HT.out, Below.refl _ _⟩
set_option maxRecDepth 100000 in
set_option maxHeartbeats 8000000 in
theorem count_node (N wo h H b0 c0 : Nat) (g : Nat → Nat) (n : Nat) (IH : CountsTo N wo h H b0 c0 g n) (h1 : 1 ≤ h) (hh : h ≤ 4) (hH : H ≤ 30) (left s : Nat) (w : World) (hmu : mu h H left s ≤ n) (hl : left ≤ H) (hS : StS h left s) (T : TW N wo h H b0 g w) :
    Calls Try.prog 51 #[.slice (some ⟨b0, 0, none⟩) (H + 1) c0, .int .i64 h, .int .i64 left, .int .i64 s, .int .i64 wo] w (RetW N wo h H b0 g w (vS (wq wo) h H left s)) := by
  have hs256 := s256 hh hS.lt
  have HT := Lib.hid T
  have HS := Lib.hid hS
  have HLO := Lib.hid T.lo.2
  by_cases hl0 : left = 0
  · subst hl0
    obtain ⟨hs0, hv⟩ := vS_zero (q := wq wo) (H := H) h1 hh hS
    subst hs0
    have HV := Lib.hid hv
    clear hv hS T IH hmu
    go_enter Try.func51, Try.ntmps51
    go_wp2_with fail
    go_ret
    exact ⟨by rw [HV.out]; rfl, HT.out, Below.refl _ _⟩
  · have e0 : ((left : Int) == 0) = false := by simp; omega
    obtain ⟨v, c1, f1, hv⟩ := T.cell hl hS.lt
    have o1 := T.out left hl
    have hi1 : (left : Int) < ((H + 1 : Nat) : Int) := by omega
    have hi0 : (0 : Int) ≤ (left : Int) := by omega
    have hj0 : (0 : Int) ≤ (s : Int) := by omega
    have hj1 : (s : Int) < ((4 ^ h : Nat) : Int) := by have := hS.lt; omega
    obtain ⟨P, hP⟩ : ∃ P, 4 ^ h = P := ⟨_, rfl⟩
    have HP := Lib.hid hP
    rw [hP] at o1 hj1
    rcases hv with rfl | ⟨_, rfl⟩
    · have hsm := vS_small (q := wq wo) h1 hh hH hl hS
      rcases fr_or h s with hno | ⟨row, hf⟩
      · have hfull := vS_full (q := wq wo) (H := H) hh hS hno (by omega)
        have hm := mu_shift (H := H) hh hS hno (by omega)
        have CF := stFree_any s h hh hS.lt w
        rw [frI_no hno] at CF
        have CS := stShift_any s h hh hS.lt hno w
        have CC := IH (left - 1) (shN s h) w (by omega) (by omega) (hS.shift hh hno) T
        obtain ⟨l1, hl1⟩ : ∃ l1, left = l1 + 1 := ⟨left - 1, by omega⟩
        subst hl1
        rw [Nat.add_sub_cancel] at CC hfull hm
        obtain ⟨s2, hs2⟩ : ∃ s2, shN s h = s2 := ⟨_, rfl⟩
        rw [hs2] at CS CC hfull
        obtain ⟨V, hVV⟩ : ∃ V, vS (wq wo) h H l1 s2 = V := ⟨_, rfl⟩
        rw [hVV] at CC hfull
        have HV : Hid (vS (wq wo) h H (l1 + 1) s = V) := Lib.hid hfull
        have HCF := Lib.hid CF
        have HCS := Lib.hid CS
        have HCC := Lib.hid CC
        have e5 : ((l1 + 1 : Nat) : Int) - 1 = (l1 : Int) := by omega
        have e6 : ((l1 + 1 : Nat) : Int) ≤ 30 := by omega
        clear hfull hm CF CS CC hs2 hVV hS T IH hmu hno hP hsm
        go_enter Try.func51, Try.ntmps51
        go_wp2_with fail
        refine HCF.out.mono ?_
        rintro e w1 ⟨rfl, hw1⟩
        rw [← hw1]
        clear hw1 w1
        go_wp2_with fail
        refine HCS.out.mono ?_
        rintro e w1 ⟨rfl, hw1⟩
        rw [← hw1]
        clear hw1 w1
        go_wp2_with fail
        refine HCC.out.mono ?_
        rintro e w2 ⟨rfl, T2, hb2⟩
        have HT2 := Lib.hid T2
        have HBB := Lib.hid hb2
        clear T2 hb2 o1 c1 f1
        obtain ⟨vz, z1, z2, _⟩ := HT2.out.cell hl HS.out.lt
        have zo := HT2.out.out (l1 + 1) hl
        rw [HP.out] at zo
        have hTS := HT2.out.set hl HS.out.lt HS.out
        have hBZ := HBB.out.setCell (p := ⟨g (l1 + 1), s, none⟩) (HLO.out (l1 + 1) hl) (.int .i64 ((vS (wq wo) h H (l1 + 1) s : Nat) : Int))
        rw [HV.out] at hTS hBZ
        have HTS := Lib.hid hTS
        have HBZ := Lib.hid hBZ
        clear hTS hBZ
        go_wp2_with fail
        go_ret
        exact ⟨by rw [HV.out]; rfl, HTS.out, HBZ.out⟩
      · have hfree := vS_free (q := wq wo) (H := H) hh hS hf (by omega) hl
        have CF := stFree_any s h hh hS.lt w
        rw [frI_yes hf] at CF
        have hrow := hf.1
        have CD := fun (d : Nat) (hd1 : 1 ≤ d) (hd : d ≤ h) (W : World) (TWW : TW N wo h H b0 g W) => side_any N wo h H b0 c0 g n IH hh hH left s row d W hmu hl hS hf hd1 hd TWW
        obtain ⟨tr, htr⟩ : ∃ tr : Nat → Nat, tr = fun i => if wq wo (i + 1) then 0 else tV (wq wo) h H left s row (i + 1) := ⟨_, rfl⟩
        rw [← htr] at hfree
        have hle := fun j (hj : j ≤ h) => sum_le_range tr hj
        obtain ⟨V, hVV⟩ : ∃ V, vS (wq wo) h H left s = V := ⟨_, rfl⟩
        rw [hVV] at hfree hsm
        have HV : Hid (vS (wq wo) h H left s = V) := Lib.hid hVV
        have HSUM := Lib.hid hfree
        have HLE : Hid (∀ j, j ≤ h → ((List.range j).map tr).sum ≤ V) := Lib.hid fun j hj => by rw [hfree]; exact hle j hj
        have HTR := Lib.hid htr
        have HCF := Lib.hid CF
        have HCD := Lib.hid CD
        clear hfree CF CD htr hle hVV hS T IH hmu hf hP
        have r0 : ¬ (row : Int) < 0 := by omega
        go_enter Try.func51, Try.ntmps51
        go_wp2_with fail
        refine HCF.out.mono ?_
        rintro e w1 ⟨rfl, hw1⟩
        rw [← hw1]
        clear hw1 w1
        go_wp2_with fail
        go_loopw [12, 13] (fun sv dv wr => ∃ j : Nat, j ≤ h ∧ dv = .int .i64 ((j : Int) + 1) ∧ sv = .int .i64 ((((List.range j).map tr).sum : Nat) : Int) ∧ TW N wo h H b0 g wr ∧ Below N w wr) (fun _ dv _ => 10 - (intOf dv).toNat)
        case atStart => exact ⟨0, Nat.zero_le _, rfl, rfl, HT.out, Below.refl _ _⟩
        case round =>
          obtain ⟨j, hj, rfl, rfl, T2, hb2⟩ := hrel
          have HT2 := Lib.hid T2
          have HBB := Lib.hid hb2
          clear T2 hb2 o1 c1 f1
          have hsj := HLE.out j hj
          obtain ⟨sm, hsmm⟩ : ∃ sm, ((List.range j).map tr).sum = sm := ⟨_, rfl⟩
          rw [hsmm] at hsj ⊢
          have HSM := Lib.hid hsmm
          clear hsmm
          by_cases hlt : j < h
          · have j1 : (j : Int) + 1 ≤ (h : Int) := by omega
            have hs2 := HLE.out (j + 1) (by omega)
            rw [sum_range_map, HSM.out] at hs2
            by_cases hw : j + 1 = wo
            · have e1 : ((j : Int) + 1 == (wo : Int)) = true := by simp; omega
              have ht : tr j = 0 := by rw [HTR.out]; simp only; rw [if_pos (by unfold wq; simpa using hw)]
              have HTJ := Lib.hid ht
              clear ht
              go_wp2_with fail
              go_roundw
              case rel => exact ⟨j + 1, by omega, by go_num, by rw [sum_range_map, HSM.out, HTJ.out]; rfl, HT2.out, HBB.out⟩
              case measure => simp [intOf]; omega
            · have e1 : ((j : Int) + 1 == (wo : Int)) = false := by simp; omega
              have ht : tr j = tV (wq wo) h H left s row (j + 1) := by rw [HTR.out]; simp only; rw [if_neg (by unfold wq; simpa using hw)]
              have CJ := HCD.out (j + 1) (by omega) (by omega) _ HT2.out
              rw [← ht, Int.natCast_succ] at CJ
              obtain ⟨tj, htj⟩ : ∃ tj, tr j = tj := ⟨_, rfl⟩
              rw [htj] at CJ hs2
              have HTJ := Lib.hid htj
              have HCJ := Lib.hid CJ
              clear ht CJ htj
              go_wp2_with fail
              refine HCJ.out.mono ?_
              rintro e w3 ⟨rfl, T3, hb3⟩
              have HT3 := Lib.hid T3
              have HB3 := Lib.hid (HBB.out.trans hb3)
              clear T3 hb3
              go_wp2_with fail
              go_roundw
              case rel => exact ⟨j + 1, by omega, by go_num, by rw [sum_range_map, HSM.out, HTJ.out]; go_num, HT3.out, HB3.out⟩
              case measure => simp [intOf]; omega
          · obtain rfl : j = h := by omega
            have hVs : sm = V := by rw [← HSM.out, ← HSUM.out]
            subst hVs
            have j1 : ¬ (j : Int) + 1 ≤ (j : Int) := by omega
            obtain ⟨vz, z1, z2, _⟩ := HT2.out.cell hl HS.out.lt
            have zo := HT2.out.out left hl
            rw [HP.out] at zo
            have hTS := HT2.out.set hl HS.out.lt HS.out
            have hBZ := HBB.out.setCell (p := ⟨g left, s, none⟩) (HLO.out left hl) (.int .i64 ((vS (wq wo) j H left s : Nat) : Int))
            rw [HV.out] at hTS hBZ
            have HTS := Lib.hid hTS
            have HBZ := Lib.hid hBZ
            clear hTS hBZ
            go_wp2_with fail
            go_ret
            exact ⟨by rw [HV.out]; rfl, HTS.out, HBZ.out⟩
    · have HVV : Hid ((vS (wq wo) h H left s : Int) = (vS (wq wo) h H left s : Nat)) := Lib.hid rfl
      obtain ⟨V, hV⟩ : ∃ V, vS (wq wo) h H left s = V := ⟨_, rfl⟩
      rw [hV] at c1 ⊢
      clear HVV hV hS T IH hmu hP
      go_enter Try.func51, Try.ntmps51
      go_wp2_with fail
      go_ret
      exact ⟨rfl, HT.out, Below.refl _ _⟩
end Go.Proofs.Ytebnekicbcdnaaa
