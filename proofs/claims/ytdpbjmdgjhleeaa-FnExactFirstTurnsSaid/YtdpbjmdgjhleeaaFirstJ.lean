/- FirstTurn of the program. -/
import Derived.Test.YtdpbjmdgjhleeaaFirM
import Derived.Deep.DeepCutAuto
import Derived.Deep.CutBlock
set_option linter.all false
namespace Go.Proofs.Ytdpbjmdgjhleeaa
open Go.RowKit

theorem F.mC_len (x : F.Ct) : (F.mC x).l.length = x.l.length := by unfold F.mC; simp [srt_len, mirL]
theorem F.tC_len (x : F.Ct) : (F.tC x).l.length = x.l.length := by unfold F.tC; simp [srt_len, turnL]
/-- Of three the least. -/
theorem best3 {C : F.Ct} {i : Nat} {b x : F.Ct} {m v1 v2 v3 : Cv} (hx : x = F.it (i + 1) C) (hB : F.Best (F.SI C i) b) (hw : x.h ≤ x.w)
    (e1 : v1.w = b.w ∧ v1.h = b.h ∧ v1.l = b.l) (e2 : v2.w = x.w ∧ v2.h = x.h ∧ v2.l = x.l) (e3 : v3.w = x.w ∧ v3.h = x.h ∧ v3.l = (F.mC x).l)
    (hm : m = v1 ∨ m = v2 ∨ m = v3) (h1 : ¬ F.ltQ v1.l m.l) (h2 : ¬ F.ltQ v2.l m.l) (h3 : ¬ F.ltQ v3.l m.l) : F.Best (F.SI C (i + 1)) ⟨m.w, m.h, m.l⟩ := by
  subst hx
  rw [e1.2.2] at h1
  rw [e2.2.2] at h2
  rw [e3.2.2] at h3
  have hS := F.SI_step hw
  have hb1 : F.SI C (i + 1) b := (hS b).1 (.inl (.inl hB.1))
  have hb2 : F.SI C (i + 1) (F.it (i + 1) C) := (hS _).1 (.inl (.inr rfl))
  have hb3 : F.SI C (i + 1) (F.mC (F.it (i + 1) C)) := (hS _).1 (.inr rfl)
  refine ⟨?_, fun y hy hlt => ?_⟩
  · rcases hm with rfl | rfl | rfl
    · rw [show (⟨m.w, m.h, m.l⟩ : F.Ct) = b by rw [e1.1, e1.2.1, e1.2.2]]; exact hb1
    · rw [show (⟨m.w, m.h, m.l⟩ : F.Ct) = F.it (i + 1) C by rw [e2.1, e2.2.1, e2.2.2]]; exact hb2
    · rw [show (⟨m.w, m.h, m.l⟩ : F.Ct) = F.mC (F.it (i + 1) C) by rw [e3.1, e3.2.1, e3.2.2]; rfl]; exact hb3
  · rcases (hS y).2 hy with (hy | rfl) | rfl
    · -- y is not before b, and m is not behind b
      by_cases hbm : F.ltQ m.l b.l
      · exact hB.2 y hy (F.ltQ_trans _ _ _ hlt hbm)
      · have := F.ltQ_tri _ _ hbm h1
        rw [this] at hlt
        exact hB.2 y hy hlt
    · exact h2 hlt
    · exact h3 hlt


set_option maxRecDepth 100000 in
set_option maxHeartbeats 16000000 in
theorem implFirst_any (W H : Int) (A : Option Addr) (n c : Nat) (L : List Sq) (w : World) (hl : L.length = n) (hc : n ≤ c) (hL : SqsAt w w.heap.size A L) (hwf : ∀ s ∈ L, wfS s) (hG : Good W H L) :
    Calls Try.prog 21 #[.agg #[.int .i64 W, .int .i64 H, .slice A n c]] w fun e w' => ∃ Ag k b, e = .returned (.tuple #[.agg #[.int .i64 b.w, .int .i64 b.h, .slice Ag b.l.length k], .bool true]) ∧ F.Best (F.SI (F.beg ⟨W, H, L⟩) 4) b ∧ w'.ownsRow w.heap.size 85 3 (.slice Ag b.l.length k) b.l.length (flat b.l) ∧ Below w.heap.size w w' := by
  subst hl
  obtain ⟨W1, hW1⟩ : ∃ W1, W1 = (w.alloc (.cells #[.int .i64 W, .int .i64 H, .slice A L.length c] 28)).alloc (.cells #[.int .i64 0, .int .i64 0, .slice none 0 0] 28) := ⟨_, rfl⟩
  have hB1 : Below w.heap.size w W1 := by rw [hW1]; exact ((Below.refl _ _).alloc (Nat.le_refl _) _).alloc (by simp) _
  have hz1 : W1.heap.size = w.heap.size + 2 := by rw [hW1]; simp
  have T1 : TA w ⟨W, H, L⟩ W1 := by
    refine ⟨hB1, by omega, ⟨A, c, ?_, ?_, ?_, hc, SqsN.old (hL.below hB1) (by omega) (by omega)⟩, ⟨?_, ?_, ?_⟩, fun g o hg => ?_⟩
    · rw [hW1]; simp [go_sem]
    · rw [hW1]; simp [go_sem]
    · rw [hW1]; simp [go_sem]
    · rw [hW1]; simp [go_sem]
    · rw [hW1]; simp [go_sem]
    · rw [hW1]; simp [go_sem]
    · rw [hW1]
      rcases hg with rfl | rfl
      · rw [World.frozen?_alloc_past _ _ _ (by simp)]
        exact World.frozen?_alloc_at _ _ _ _ rfl
      · exact World.frozen?_alloc_at _ _ _ _ (by simp)
  have hL1 : SqsAt W1 W1.heap.size A L := (hL.below hB1).mono hB1.size
  have HG := Lib.hid hG
  have HT1 := Lib.hid T1
  have b0 : W1.cell? ⟨w.heap.size, 0, none⟩ = some (.int .i64 W) := by rw [hW1]; simp [go_sem]
  have b1 : W1.cell? ⟨w.heap.size, 1, none⟩ = some (.int .i64 H) := by rw [hW1]; simp [go_sem]
  have b2 : W1.cell? ⟨w.heap.size, 2, none⟩ = some (.slice A L.length c) := by rw [hW1]; simp [go_sem]
  obtain ⟨C, hC⟩ : ∃ C, F.beg ⟨W, H, L⟩ = C := ⟨_, rfl⟩
  have hGC : Good C.w C.h C.l := by rw [← hC]; exact F.good_beg hG
  have HGC := Lib.hid hGC
  rw [hC]
  have HC := Lib.hid hC
  clear hGC hC
  go_enter Try.func21, Try.ntmps21
  go_wp2_with fail
  rw [← hW1]
  clear hW1 T1
  refine (callB_yes (isCut_good W H A _ c L _ rfl hc hL1 hwf) hG).mono ?_
  rintro e w2 ⟨rfl, hb2⟩
  have T2 := HT1.out.keep hb2
  clear b0 b1 b2 hb2 HT1 hL hG hL1 hB1 hz1
  obtain ⟨Ac, kc, c0, c1, c2, hkc, hSc⟩ := id (T2).cur
  obtain ⟨r0, r1, r2⟩ := id (T2).res
  have f00 := (T2).fr w.heap.size 0 (.inl rfl)
  have f01 := (T2).fr w.heap.size 1 (.inl rfl)
  have f02 := (T2).fr w.heap.size 2 (.inl rfl)
  have h00 := (T2).fr (w.heap.size + 1) 0 (.inr rfl)
  have h01 := (T2).fr (w.heap.size + 1) 1 (.inr rfl)
  have h02 := (T2).fr (w.heap.size + 1) 2 (.inr rfl)
  have hzA := (T2).size
  have hzN : w.heap.size < w2.heap.size := by omega
  have hwb0 : W ≤ 500 ∧ H ≤ 500 := ⟨HG.out.1.2, HG.out.2.1.2⟩
  have HT2 := Lib.hid T2
  have HS2 := Lib.hid hSc
  clear T2 hSc
  go_upto_if 13 with fail
  go_cut [] (fun wx => TA w C wx)
  case first =>
    by_cases hlt : W < H
    · have hcb : C = F.tC ⟨W, H, L⟩ := HC.out.symm.trans (if_pos hlt)
      have CT : Calls Try.prog 56 #[.agg #[.int .i64 W, .int .i64 H, .slice Ac L.length kc]] w2 (RetC w2 C.w C.h C.l) := by
        rw [hcb]
        exact turnC_any ⟨W, H, L⟩ Ac kc w2 hkc HS2.out.sqs HG.out
      clear hcb
      go_wp2_with fail
      (with_reducible refine CT.mono ?_)
      rintro e w3 ⟨A3, k3, rfl, ho3, hb3⟩
      have T3 := HT2.out.keep hb3
      have TAa := T3.setCur C.w C.h C.l rfl ho3 (by omega)
      have HTA := Lib.hid TAa
      clear c0 c1 c2 r0 r1 r2 f00 f01 f02 h00 h01 h02 hzA hzN hkc
      clear hb3 CT ho3 TAa
      obtain ⟨Ac, kc, c0, c1, c2, hkc, hSc⟩ := id (T3).cur
      obtain ⟨r0, r1, r2⟩ := id (T3).res
      have f00 := (T3).fr w.heap.size 0 (.inl rfl)
      have f01 := (T3).fr w.heap.size 1 (.inl rfl)
      have f02 := (T3).fr w.heap.size 2 (.inl rfl)
      have h00 := (T3).fr (w.heap.size + 1) 0 (.inr rfl)
      have h01 := (T3).fr (w.heap.size + 1) 1 (.inr rfl)
      have h02 := (T3).fr (w.heap.size + 1) 2 (.inr rfl)
      have hzA := (T3).size
      have hzN : w.heap.size < w3.heap.size := by omega
      clear hSc T3
      go_wp2_with fail
      go_meet
      exact HTA.out
    · have hcb : C = ⟨W, H, L⟩ := HC.out.symm.trans (if_neg hlt)
      have TAa : TA w C w2 := by rw [hcb]; exact HT2.out
      clear hcb
      go_wp2_with fail
      go_meet
      exact TAa
  clear c0 c1 c2 r0 r1 r2 f00 f01 f02 h00 h01 h02 hzA hzN hkc
  clear HT2 HS2
  obtain ⟨Wa, hWa⟩ : ∃ Wa, Wa = wc := ⟨_, rfl⟩
  rw [← hWa] at hcut ⊢
  clear hWa
  have TAa := hcut
  clear hcut
  have hwb : C.w ≤ 500 ∧ C.h ≤ 500 := ⟨HGC.out.1.2, HGC.out.2.1.2⟩
  have h30 : C.l.length ≤ 30 := HGC.out.2.2.1.2
  obtain ⟨Ac, kc, c0, c1, c2, hkc, hSc⟩ := id (TAa).cur
  obtain ⟨r0, r1, r2⟩ := id (TAa).res
  have f00 := (TAa).fr w.heap.size 0 (.inl rfl)
  have f01 := (TAa).fr w.heap.size 1 (.inl rfl)
  have f02 := (TAa).fr w.heap.size 2 (.inl rfl)
  have h00 := (TAa).fr (w.heap.size + 1) 0 (.inr rfl)
  have h01 := (TAa).fr (w.heap.size + 1) 1 (.inr rfl)
  have h02 := (TAa).fr (w.heap.size + 1) 2 (.inr rfl)
  have hzA := (TAa).size
  have hzN : w.heap.size < Wa.heap.size := by omega
  have HTA := Lib.hid TAa
  have HSC := Lib.hid hSc
  clear TAa hSc
  have CM := mirC_any C Ac kc Wa hkc HSC.out.sqs HGC.out
  go_wp2_with fail
  (with_reducible refine CM.mono ?_)
  rintro e w4 ⟨A4, k4, rfl, ho4, hb4⟩
  have hzo := HTA.out.size
  have TA4 := HTA.out.keep hb4
  have TB4 := TA4.box C.w C.h (F.mC C).l rfl ho4 (by omega) (by rw [F.mC_len]; omega)
  clear c0 c1 c2 r0 r1 r2 f00 f01 f02 h00 h01 h02 hzA hzN hkc
  clear CM hb4 HTA HSC
  obtain ⟨Ac, kc, c0, c1, c2, hkc, hSc⟩ := id (TA4).cur
  obtain ⟨r0, r1, r2⟩ := id (TA4).res
  have f00 := (TA4).fr w.heap.size 0 (.inl rfl)
  have f01 := (TA4).fr w.heap.size 1 (.inl rfl)
  have f02 := (TA4).fr w.heap.size 2 (.inl rfl)
  have h00 := (TA4).fr (w.heap.size + 1) 0 (.inr rfl)
  have h01 := (TA4).fr (w.heap.size + 1) 1 (.inr rfl)
  have h02 := (TA4).fr (w.heap.size + 1) 2 (.inr rfl)
  have hzA := (TA4).size
  have hzN : w.heap.size < w4.heap.size := by omega
  clear TA4 hSc ho4
  obtain ⟨P, hP0⟩ : ∃ P, P = w4.heap.size := ⟨_, rfl⟩
  rw [← hP0] at TB4
  have HTB := Lib.hid TB4
  clear TB4
  go_wp2_with fail
  rw [← hP0]
  clear hP0 c0 c1 c2 r0 r1 r2 f00 f01 f02 h00 h01 h02 hzA hzN hkc
  go_loopw [18] (fun i wr => ∃ (j : Nat) (b : F.Ct), j ≤ 4 ∧ i = .int .i64 j ∧ F.Best (F.SI C j) b ∧ TB w P (F.it j C) b wr) (fun i _ => 4 - (intOf i).toNat)
  case atStart => exact ⟨0, _, Nat.zero_le _, rfl, F.SI_best C, HTB.out⟩
  case round =>
    clear HTB
    obtain ⟨j, b, hj, rfl, hBe, hT⟩ := hrel
    have HBE := Lib.hid hBe
    clear hBe
    by_cases hlj : j < 4
    · have hlji : (j : Int) < 4 := by omega
      have hljd : decide ((j : Int) < 4) = true := decide_eq_true hlji
      have hGx : Good (F.it j C).w (F.it j C).h (F.it j C).l := F.good_it HGC.out j
      obtain ⟨y, hy⟩ : ∃ y, F.it (j + 1) C = y := ⟨_, rfl⟩
      have hGy : Good y.w y.h y.l := by rw [← hy]; exact F.good_it HGC.out (j + 1)
      obtain ⟨x, hx⟩ : ∃ x, F.it j C = x := ⟨_, rfl⟩
      have hyx : y = F.tC x := by rw [← hy, ← hx]; rfl
      rw [hx] at hT hGx
      have hwx : x.w ≤ 500 ∧ x.h ≤ 500 := ⟨hGx.1.2, hGx.2.1.2⟩
      have hwy : y.w ≤ 500 ∧ y.h ≤ 500 := ⟨hGy.1.2, hGy.2.1.2⟩
      have hly : y.l.length ≤ 30 := hGy.2.2.1.2
      obtain ⟨Ac, kc, c0, c1, c2, hkc, hSc⟩ := id (hT).cur
      obtain ⟨Ab, kb, d0, d1, d2, hob, hnb⟩ := id (hT).best
      have f00 := (hT).fr w.heap.size 0 (.inl rfl)
      have f01 := (hT).fr w.heap.size 1 (.inl rfl)
      have f02 := (hT).fr w.heap.size 2 (.inl rfl)
      have g00 := (hT).fr P 0 (.inr (.inr rfl))
      have g01 := (hT).fr P 1 (.inr (.inr rfl))
      have g02 := (hT).fr P 2 (.inr (.inr rfl))
      have hP := (hT).hP
      have hz := (hT).size
      have hzN : w.heap.size < wr.heap.size := by omega
      have hNP : w.heap.size ≠ P := by omega
      have hPN : P ≠ w.heap.size := by omega
      have CT : Calls Try.prog 56 #[.agg #[.int .i64 x.w, .int .i64 x.h, .slice Ac x.l.length kc]] wr (RetC wr y.w y.h y.l) := by
        rw [hyx]
        exact turnC_any x Ac kc wr hkc hSc.sqs hGx
      have HY := Lib.hid hy
      have HGY := Lib.hid hGy
      have HT := Lib.hid hT
      clear hx hy hyx hGx hGy hSc hob hnb hT
      go_upto_block 1 with fail
      go_cut [] (fun wx => ∃ b', F.Best (F.SI C (j + 1)) b' ∧ TB w P y b' wx)
      case first =>
        go_wp2_with fail
        (with_reducible refine CT.mono ?_)
        rintro e w3 ⟨A3, k3, rfl, ho3, hb3⟩
        have hPw : P < wr.heap.size := HT.out.size
        have T3 := HT.out.keep hb3
        clear c0 c1 c2 d0 d1 d2 f00 f01 f02 g00 g01 g02 hz hzN hkc hP hNP hPN
        clear hb3 CT HT
        obtain ⟨Ac, kc, c0, c1, c2, hkc, hSc⟩ := id (T3).cur
        obtain ⟨Ab, kb, d0, d1, d2, hob, hnb⟩ := id (T3).best
        have f00 := (T3).fr w.heap.size 0 (.inl rfl)
        have f01 := (T3).fr w.heap.size 1 (.inl rfl)
        have f02 := (T3).fr w.heap.size 2 (.inl rfl)
        have g00 := (T3).fr P 0 (.inr (.inr rfl))
        have g01 := (T3).fr P 1 (.inr (.inr rfl))
        have g02 := (T3).fr P 2 (.inr (.inr rfl))
        have hP := (T3).hP
        have hz := (T3).size
        have hzN : w.heap.size < w3.heap.size := by omega
        have hNP : w.heap.size ≠ P := by omega
        have hPN : P ≠ w.heap.size := by omega
        have T3' := T3.setCur y.w y.h y.l rfl ho3 hPw
        have hne3 : (Value.slice A3 y.l.length k3).ownBlock ≠ some w.heap.size := fun e => by have := (ho3.lt _ e).1; omega
        have hneb : (Value.slice Ab b.l.length kb).ownBlock ≠ some w.heap.size := fun e => hnb _ e (.inl rfl)
        have O3 := ownsRow_setCell_other (ownsRow_setCell_other (ownsRow_setCell_other ho3 (a := ⟨w.heap.size, 0, none⟩) hne3 (.int .i64 y.w)) (a := ⟨w.heap.size, 1, none⟩) hne3 (.int .i64 y.h)) (a := ⟨w.heap.size, 2, none⟩) hne3 (.slice A3 y.l.length k3)
        have OB := ownsRow_setCell_other (ownsRow_setCell_other (ownsRow_setCell_other hob (a := ⟨w.heap.size, 0, none⟩) hneb (.int .i64 y.w)) (a := ⟨w.heap.size, 1, none⟩) hneb (.int .i64 y.h)) (a := ⟨w.heap.size, 2, none⟩) hneb (.slice A3 y.l.length k3)
        obtain ⟨e0, e1, e2⟩ := set3 w3 w.heap.size (.int .i64 y.w) (.int .i64 y.h) (.slice A3 y.l.length k3) c0 c1 c2
        have q0 := (far3 w3 w.heap.size (.int .i64 y.w) (.int .i64 y.h) (.slice A3 y.l.length k3) (p := ⟨P, 0, none⟩) hNP).trans d0
        have q1 := (far3 w3 w.heap.size (.int .i64 y.w) (.int .i64 y.h) (.slice A3 y.l.length k3) (p := ⟨P, 1, none⟩) hNP).trans d1
        have q2 := (far3 w3 w.heap.size (.int .i64 y.w) (.int .i64 y.h) (.slice A3 y.l.length k3) (p := ⟨P, 2, none⟩) hNP).trans d2
        have hP2 : w.heap.size + 2 ≤ P := hP
        obtain ⟨W3, hW3⟩ : ∃ W3, W3 = ((w3.setCell ⟨w.heap.size, 0, none⟩ (.int .i64 y.w)).setCell ⟨w.heap.size, 1, none⟩ (.int .i64 y.h)).setCell ⟨w.heap.size, 2, none⟩ (.slice A3 y.l.length k3) := ⟨_, rfl⟩
        rw [← hW3] at T3' O3 OB e0 e1 e2 q0 q1 q2
        have HT3 := Lib.hid T3'
        have HO3 := Lib.hid O3
        have HOB := Lib.hid OB
        have HNB := Lib.hid hnb
        have HHO := Lib.hid ho3
        clear T3' O3 OB hnb hob ho3 hSc T3 hne3 hneb
        go_upto_if 26 with fail
        rw [← hW3]
        clear hW3 c0 c1 c2 d0 d1 d2 f00 f01 f02 g00 g01 g02 hz hzN hkc  
        by_cases hwd : y.h ≤ y.w
        · skip
          have g00 := HT3.out.fr P 0 (.inr (.inr rfl))
          have g01 := HT3.out.fr P 1 (.inr (.inr rfl))
          have g02 := HT3.out.fr P 2 (.inr (.inr rfl))
          have hz3 : P < W3.heap.size := HT3.out.size
          have hN3 : w.heap.size < W3.heap.size := by omega
          have CMI : ∀ w' : World, Below W3.heap.size W3 w' → Calls Try.prog 51 #[.agg #[.int .i64 y.w, .int .i64 y.h, .slice A3 y.l.length k3]] w' (RetC w' y.w y.h (F.mC y).l) := fun w' hb => mirC_any y A3 k3 w' (own_cap HO3.out) (sqs_of_own (own_below HO3.out hb (fun k hk => (HO3.out.lt k hk).2))) HGY.out
          go_wp2_with fail
          go_region_with (first
            | (go_at_call 51; (with_reducible refine (CMI _ ((Below.refl _ _).drew)).mono ?_); rintro e w5 ⟨A5, k5, rfl, ho5, hb5⟩; have hb5' : Below W3.heap.size W3 w5 := ((Below.refl W3.heap.size W3).drew).trans (hb5.mono (Nat.le_refl _)); have e0 := (hb5'.cell (p := ⟨w.heap.size, 0, none⟩) hN3).trans e0; have e1 := (hb5'.cell (p := ⟨w.heap.size, 1, none⟩) hN3).trans e1; have e2 := (hb5'.cell (p := ⟨w.heap.size, 2, none⟩) hN3).trans e2; have q0 := (hb5'.cell (p := ⟨P, 0, none⟩) hz3).trans q0; have q1 := (hb5'.cell (p := ⟨P, 1, none⟩) hz3).trans q1; have q2 := (hb5'.cell (p := ⟨P, 2, none⟩) hz3).trans q2)
            | (go_at_call 57; have M3 := min3_any ⟨b.w, b.h, Ab, kb, b.l⟩ ⟨y.w, y.h, A3, k3, y.l⟩ ⟨y.w, y.h, A5, k5, (F.mC y).l⟩ w5 ⟨sqs_of_own (own_below HOB.out hb5' (fun k hk => (HOB.out.lt k hk).2)), HT3.out.len⟩ ⟨sqs_of_own (own_below HO3.out hb5' (fun k hk => (HO3.out.lt k hk).2)), by show y.l.length ≤ 1048576; omega⟩ ⟨sqs_of_own ho5, by rw [F.mC_len]; omega⟩; dsimp only at M3; (with_reducible refine M3.mono ?_); rintro e w6 ⟨⟨m, rfl, hm, l1, l2, l3⟩, hb6⟩; have hz5 := hb5'.size; have q0 := (hb6.cell (p := ⟨P, 0, none⟩) (by show P < _; omega)).trans q0; have q1 := (hb6.cell (p := ⟨P, 1, none⟩) (by show P < _; omega)).trans q1; have q2 := (hb6.cell (p := ⟨P, 2, none⟩) (by show P < _; omega)).trans q2; have hb56 := hb5'.trans (hb6.mono hb5'.size); have g00 := (hb56.frozen (p := ⟨P, 0, none⟩) hz3).trans g00; have g01 := (hb56.frozen (p := ⟨P, 1, none⟩) hz3).trans g01; have g02 := (hb56.frozen (p := ⟨P, 2, none⟩) hz3).trans g02))
          all_goals (go_wp2_with fail; go_meet)
          all_goals
            have T6 := HT3.out.keep hb56
            refine ⟨⟨m.w, m.h, m.l⟩, best3 HY.out.symm HBE.out hwd ⟨rfl, rfl, rfl⟩ ⟨rfl, rfl, rfl⟩ ⟨rfl, rfl, rfl⟩ hm l1 l2 l3, ?_⟩
            rcases hm with rfl | rfl | rfl
            · exact T6.setBest b.w b.h b.l rfl (own_below HOB.out hb56 (fun k hk => (HOB.out.lt k hk).2)) HNB.out HT3.out.len
            · exact T6.setBest y.w y.h y.l rfl (own_base (own_below HO3.out hb56 (fun k hk => (HO3.out.lt k hk).2)) (by omega)) (not_sb HO3.out hP2 hPw) (by omega)
            · exact T6.setBest y.w y.h (F.mC y).l rfl (own_base (own_keep ho5 hb6) (by show w.heap.size ≤ W3.heap.size; omega)) (not_sb ho5 hP2 hz3) (by rw [F.mC_len]; omega)
        · go_wp2_with fail
          go_meet
          exact ⟨b, HBE.out.congr (F.SI_skip (by rw [HY.out]; omega)), HT3.out⟩
      obtain ⟨b', hB', hT'⟩ := hcut
      have HB' := Lib.hid hB'
      have HT' := Lib.hid hT'
      clear hB' hT' CT c0 c1 c2 d0 d1 d2 f00 f01 f02 g00 g01 g02
      go_wp2_with fail
      go_roundw
      case rel => exact ⟨j + 1, b', by omega, by go_num, HB'.out, by rw [HY.out]; exact HT'.out⟩
      case measure => simp [intOf]; omega
    · obtain rfl : j = 4 := by omega
      obtain ⟨Ac, kc, c0, c1, c2, hkc, hSc⟩ := id (hT).cur
      obtain ⟨Ab, kb, d0, d1, d2, hob, hnb⟩ := id (hT).best
      have f00 := (hT).fr w.heap.size 0 (.inl rfl)
      have f01 := (hT).fr w.heap.size 1 (.inl rfl)
      have f02 := (hT).fr w.heap.size 2 (.inl rfl)
      have g00 := (hT).fr P 0 (.inr (.inr rfl))
      have g01 := (hT).fr P 1 (.inr (.inr rfl))
      have g02 := (hT).fr P 2 (.inr (.inr rfl))
      have hP := (hT).hP
      have hz := (hT).size
      have hzN : w.heap.size < wr.heap.size := by omega
      have hNP : w.heap.size ≠ P := by omega
      have hPN : P ≠ w.heap.size := by omega
      obtain ⟨r0, r1, r2⟩ := id hT.res
      have h00 := hT.fr (w.heap.size + 1) 0 (.inr (.inl rfl))
      have h01 := hT.fr (w.heap.size + 1) 1 (.inr (.inl rfl))
      have h02 := hT.fr (w.heap.size + 1) 2 (.inr (.inl rfl))
      have hzN1 : w.heap.size + 1 < wr.heap.size := by omega
      have hne : (Value.slice Ab b.l.length kb).ownBlock ≠ some (w.heap.size + 1) := fun e => hnb _ e (.inr (.inl rfl))
      have R := ownsRow_setCell_other (ownsRow_setCell_other (ownsRow_setCell_other hob (a := ⟨w.heap.size + 1, 0, none⟩) hne (.int .i64 b.w)) (a := ⟨w.heap.size + 1, 1, none⟩) hne (.int .i64 b.h)) (a := ⟨w.heap.size + 1, 2, none⟩) hne (.slice Ab b.l.length kb)
      have hBE := ((hT.below.setCell (p := ⟨w.heap.size + 1, 0, none⟩) (by simp) (.int .i64 b.w)).setCell (p := ⟨w.heap.size + 1, 1, none⟩) (by simp) (.int .i64 b.h)).setCell (p := ⟨w.heap.size + 1, 2, none⟩) (by simp) (.slice Ab b.l.length kb)
      have HR := Lib.hid R
      have HW := Lib.hid hBE
      clear hT hSc hob hnb hne R hBE
      go_wp2_with fail
      refine bodyPost_ret (v := .tuple #[.agg #[.int .i64 b.w, .int .i64 b.h, .slice Ab b.l.length kb], .bool true]) (by simp [results, Try.results21, go_sem, r0, r1, r2]) rfl ?_
      exact ⟨Ab, kb, b, rfl, HBE.out, HR.out, HW.out⟩
end Go.Proofs.Ytdpbjmdgjhleeaa
