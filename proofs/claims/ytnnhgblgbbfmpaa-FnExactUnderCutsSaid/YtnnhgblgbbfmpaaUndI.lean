/- UnderCuts of the program. -/
import Derived.Test.YtnnhgblgbbfmpaaExch
import Derived.Test.YtnnhgblgbbfmpaaBesI
set_option linter.all false
namespace Go.Proofs.Ytnnhgblgbbfmpaa
open Go.RowKit

set_option maxRecDepth 100000 in
set_option maxHeartbeats 8000000 in
theorem implUnder_any (W H : Int) (A : Option Addr) (n c : Nat) (L : List Sq) (V G : Int) (A' : Option Addr) (n' c' : Nat) (M : List Sq) (w : World) (hl : L.length = n) (hl' : M.length = n') (hc : n ≤ c) (hc' : n' ≤ c') (hL : SqsAt w w.heap.size A L) (hM : SqsAt w w.heap.size A' M) (hwf : ∀ s ∈ L, wfS s) (hwf' : ∀ s ∈ M, wfS s) :
    Calls Try.prog 50 #[.agg #[.int .i64 W, .int .i64 H, .slice A n c], .agg #[.int .i64 V, .int .i64 G, .slice A' n' c']] w (RetT w (unT W H L V G M)) := by
  subst hl
  subst hl'
  have K0 := BB.start w W H A L.length c V G A' M.length c'
  obtain ⟨W1, hW1⟩ : ∃ W1, W1 = (((w.alloc (.cells #[.int .i64 W, .int .i64 H, .slice A L.length c] 28)).alloc (.cells #[.int .i64 V, .int .i64 G, .slice A' M.length c'] 28)).alloc (.cells #[.int .i64 0, .int .i64 0, .slice none 0 0] 28)) := ⟨_, rfl⟩
  rw [← hW1] at K0
  by_cases hG : Good W H L
  · by_cases hK : Good V G M
    · have hun := unT_be hG hK
      have hgz := fun h => beT_good (W := H) (H := W) (L := srt (J.swL L)) (V := G) (G := V) (M := srt (J.swL M)) h
      obtain ⟨Z, hZ⟩ : ∃ Z, beT H W (srt (J.swL L)) G V (srt (J.swL M)) = Z := ⟨_, rfl⟩
      rw [hZ] at hun hgz
      have HUN := Lib.hid hun
      have HGZ := Lib.hid hgz
      have HZ := Lib.hid hZ
      clear hun hgz hZ
      have ⟨_, a0, a1, a2⟩ := K0.a
      have ⟨_, b0, b1, b2⟩ := K0.b
      have ⟨_, r0, r1, r2⟩ := K0.r
      have t0 := K0.fz (w.heap.size + 2) 0 (by omega) (by omega)
      have t1 := K0.fz (w.heap.size + 2) 1 (by omega) (by omega)
      have t2 := K0.fz (w.heap.size + 2) 2 (by omega) (by omega)
      have s0 := K0.size
      go_enter Try.func50, Try.ntmps50
      go_wp2_with fail
      rw [← hW1]
      refine (callB_yes (isCut_good W H A _ c L _ rfl hc ((hL.below K0.below).mono K0.below.size) hwf) hG).mono ?_
      rintro e w1 ⟨rfl, hb1⟩
      have K1 := K0.next hb1
      clear a0 a1 a2 b0 b1 b2 r0 r1 r2 t0 t1 t2
      clear K0 hW1 hb1 s0
      have ⟨_, a0, a1, a2⟩ := K1.a
      have ⟨_, b0, b1, b2⟩ := K1.b
      have ⟨_, r0, r1, r2⟩ := K1.r
      have t0 := K1.fz (w.heap.size + 2) 0 (by omega) (by omega)
      have t1 := K1.fz (w.heap.size + 2) 1 (by omega) (by omega)
      have t2 := K1.fz (w.heap.size + 2) 2 (by omega) (by omega)
      have s0 := K1.size
      go_wp2_with fail
      refine (callB_yes (isCut_good V G A' _ c' M _ rfl hc' ((hM.below K1.below).mono K1.below.size) hwf') hK).mono ?_
      rintro e w2 ⟨rfl, hb2⟩
      have K2 := K1.next hb2
      clear a0 a1 a2 b0 b1 b2 r0 r1 r2 t0 t1 t2
      clear K1 hb2 s0
      have ⟨_, a0, a1, a2⟩ := K2.a
      have ⟨_, b0, b1, b2⟩ := K2.b
      have ⟨_, r0, r1, r2⟩ := K2.r
      have t0 := K2.fz (w.heap.size + 2) 0 (by omega) (by omega)
      have t1 := K2.fz (w.heap.size + 2) 1 (by omega) (by omega)
      have t2 := K2.fz (w.heap.size + 2) 2 (by omega) (by omega)
      have s0 := K2.size
      have B2 := Lib.hid K2.below
      have hg1 := J.good_sw hG
      have hg2 := J.good_sw hK
      have hl1 : (srt (J.swL L)).length = L.length := by rw [srt_len, J.swL_len]
      have hl2 : (srt (J.swL M)).length = M.length := by rw [srt_len, J.swL_len]
      have hf1 : ∀ s ∈ srt (J.swL L), wfS s := fun s hs => by have h1 := (good_fill hg1).within s hs; have h2 := hg1.1; have h3 := hg1.2.1; unfold Within at h1; exact wf_small (m := 500) (by decide) (by omega)
      have hf2 : ∀ s ∈ srt (J.swL M), wfS s := fun s hs => by have h1 := (good_fill hg2).within s hs; have h2 := hg2.1; have h3 := hg2.2.1; unfold Within at h1; exact wf_small (m := 500) (by decide) (by omega)
      obtain ⟨L', hL'⟩ : ∃ L', srt (J.swL L) = L' := ⟨_, rfl⟩
      obtain ⟨M', hM'⟩ : ∃ L', srt (J.swL M) = L' := ⟨_, rfl⟩
      have C1 : ∀ w' : World, (Below w2.heap.size w2 w' ∧ w2.heap.size ≤ w'.heap.size ∧ ∀ b o, b < w2.heap.size → w'.cell? ⟨b, o, none⟩ = w2.cell? ⟨b, o, none⟩) → Calls Try.prog 91 #[.agg #[.int .i64 W, .int .i64 H, .slice A L.length c]] w' (RetC w' H W L') := fun w' hS => by
        rw [← hL']
        exact exchanged_any W H A L.length c L w' rfl hc ((hL.below (B2.out.trans (hS.1.mono B2.out.size))).mono (Nat.le_trans B2.out.size hS.2.1)) hG
      have C2 : ∀ w' : World, (Below w2.heap.size w2 w' ∧ w2.heap.size ≤ w'.heap.size ∧ ∀ b o, b < w2.heap.size → w'.cell? ⟨b, o, none⟩ = w2.cell? ⟨b, o, none⟩) → Calls Try.prog 91 #[.agg #[.int .i64 V, .int .i64 G, .slice A' M.length c']] w' (RetC w' G V M') := fun w' hS => by
        rw [← hM']
        exact exchanged_any V G A' M.length c' M w' rfl hc' ((hM.below (B2.out.trans (hS.1.mono B2.out.size))).mono (Nat.le_trans B2.out.size hS.2.1)) hK
      rw [hL'] at HZ hl1 hf1
      rw [hM'] at HZ hl2 hf2
      clear hg1 hg2 hL' hM'
      go_upto_region 4 with fail
      go_cut [6, 7] (fun s1 s2 wx => ∃ (g c0 : Nat) (A0 : Option Addr), s1 = .pointer (some ⟨g, 0, none⟩) ∧ s2 = .bool Z.2.2.2 ∧ RQ w2 wx g Z.1 Z.2.1 A0 Z.2.2.1 c0)
      case first =>
        go_region_held3 (fun w' => Below w2.heap.size w2 w' ∧ w2.heap.size ≤ w'.heap.size ∧ ∀ b o, b < w2.heap.size → w'.cell? ⟨b, o, none⟩ = w2.cell? ⟨b, o, none⟩)
          (first | assumption | exact keepS (by assumption) (by assumption) | exact putS3 (by assumption) (And.left (And.right (by assumption))) | exact putS3 (by assumption) (Nat.le_refl _) | exact ⟨(Below.refl _ _).drew, Nat.le_refl _, fun _ _ _ => rfl⟩ | exact keepS (by assumption) ((Below.refl _ _).alloc (Nat.le_refl _) _))
          (first
            | (go_at_call 91; first | ((with_reducible refine (C1 _ (by assumption)).mono ?_); rintro e wN ⟨AN, cN, rfl, oN, hbN⟩; rw [hl1] at oN; (try rw [hl1]); have hSN := keepS (by assumption) hbN; have sN := hbN.size; (try simp at sN)) | ((with_reducible refine (C2 _ (by assumption)).mono ?_); rintro e wW ⟨AW, cW, rfl, oW, hbW⟩; rw [hl2] at oW; (try rw [hl2]); have hSW := keepS (by assumption) hbW; have sW := hbW.size; (try simp at sW); first | (have oN := own_keep oN hbW) | (have oN := own_keep (own_keep oN ((Below.refl _ _).alloc (Nat.le_refl _) _)) hbW) | skip))
            | (go_at_call 48; refine (implBeside_any H W _ _ _ L' G V _ _ _ M' _ hl1 hl2 (by first | exact own_cap oN) (by first | exact own_cap oW) (by first | exact sqs_of_own oN | exact sqs_of_own (own_keep oN ((Below.refl _ _).alloc (Nat.le_refl _) _))) (by first | exact sqs_of_own oW | exact sqs_of_own (own_keep oW ((Below.refl _ _).alloc (Nat.le_refl _) _))) hf1 hf2).mono ?_; rintro e wE hret; rw [HZ.out] at hret; obtain ⟨A0, c0, rfl, oE, hbS⟩ := hret; have hSE := keepS (by assumption) hbS; (try have z0 := box0 (by (first | exact hbS | exact nx hbW hbS | exact nx (unD hbW) hbS | exact nx hbN hbS | exact nx (nx hbN hbW) hbS | exact nx (nx hbW hbN) hbS | exact nx (nx (unD hbN) hbW) hbS | exact nx (nx (unD hbW) hbN) hbS))); (try have z1 := box1 (by (first | exact hbS | exact nx hbW hbS | exact nx (unD hbW) hbS | exact nx hbN hbS | exact nx (nx hbN hbW) hbS | exact nx (nx hbW hbN) hbS | exact nx (nx (unD hbN) hbW) hbS | exact nx (nx (unD hbW) hbN) hbS))); (try have z2 := box2 (by (first | exact hbS | exact nx hbW hbS | exact nx (unD hbW) hbS | exact nx hbN hbS | exact nx (nx hbN hbW) hbS | exact nx (nx hbW hbN) hbS | exact nx (nx (unD hbN) hbW) hbS | exact nx (nx (unD hbW) hbN) hbS))); (try have f0 := boxf (by (first | exact hbS | exact nx hbW hbS | exact nx (unD hbW) hbS | exact nx hbN hbS | exact nx (nx hbN hbW) hbS | exact nx (nx hbW hbN) hbS | exact nx (nx (unD hbN) hbW) hbS | exact nx (nx (unD hbW) hbN) hbS)) 0); (try have f1 := boxf (by (first | exact hbS | exact nx hbW hbS | exact nx (unD hbW) hbS | exact nx hbN hbS | exact nx (nx hbN hbW) hbS | exact nx (nx hbW hbN) hbS | exact nx (nx (unD hbN) hbW) hbS | exact nx (nx (unD hbW) hbN) hbS)) 1); (try have f2 := boxf (by (first | exact hbS | exact nx hbW hbS | exact nx (unD hbW) hbS | exact nx hbN hbS | exact nx (nx hbN hbW) hbS | exact nx (nx hbW hbN) hbS | exact nx (nx (unD hbN) hbW) hbS | exact nx (nx (unD hbW) hbN) hbS)) 2)))
        all_goals (go_wp2_with fail; go_meet)
        all_goals
          refine ⟨_, c0, A0, rfl, rfl, ?_⟩
          first
            | exact RQ.late (belowS (Wc := w2) (by assumption)) (szS (Wc := w2) (by assumption)) oE (by first | omega | (simp; done) | (simp; omega))
            | exact RQ.early (szS (Wc := w2) (by assumption)) (belowS (Wc := w2) (by assumption)) (by (first | exact hbS | exact nx hbW hbS | exact nx (unD hbW) hbS | exact nx hbN hbS | exact nx (nx hbN hbW) hbS | exact nx (nx hbW hbN) hbS | exact nx (nx (unD hbN) hbW) hbS | exact nx (nx (unD hbW) hbN) hbS)) oE (by first | omega | (simp; done) | (simp; omega))
            | exact RQ.early (Nat.le_refl _) (belowS (Wc := w2) (by assumption)) (by (first | exact hbS | exact nx hbW hbS | exact nx (unD hbW) hbS | exact nx hbN hbS | exact nx (nx hbN hbW) hbS | exact nx (nx hbW hbN) hbS | exact nx (nx (unD hbN) hbW) hbS | exact nx (nx (unD hbW) hbN) hbS)) oE (by first | omega | (simp; done) | (simp; omega))
      obtain ⟨g0, c0, A0, rfl, rfl, hRQ⟩ := hcut
      obtain ⟨w3, hw3⟩ : ∃ w3, w3 = wc := ⟨_, rfl⟩
      rw [← hw3] at hRQ ⊢
      have hb3 := hRQ.bel
      have o3 := hRQ.own
      have K3 := K2.next hb3
      have bq := hRQ.box
      have cap3 := own_cap o3
      clear a0 a1 a2 b0 b1 b2 r0 r1 r2 t0 t1 t2
      clear s0 hw3 hb3 C1 C2 hRQ
      have ⟨_, a0, a1, a2⟩ := K3.a
      have ⟨_, b0, b1, b2⟩ := K3.b
      have ⟨_, r0, r1, r2⟩ := K3.r
      have t0 := K3.fz (w.heap.size + 2) 0 (by omega) (by omega)
      have t1 := K3.fz (w.heap.size + 2) 1 (by omega) (by omega)
      have t2 := K3.fz (w.heap.size + 2) 2 (by omega) (by omega)
      have s0 := K3.size
      obtain ⟨_, p0, p1, p2⟩ := id bq
      have hok := HGZ.out
      have hun := HUN.out
      by_cases hz : Z.2.2.2 = true
      · have hGZ := hok hz
        rw [if_pos hz] at hun
        have HUN2 := Lib.hid hun
        clear hok hun HGZ HUN
        go_wp2_with fail
        refine (exchanged_any Z.1 Z.2.1 A0 _ c0 Z.2.2.1 w3 rfl cap3 (sqs_of_own o3) hGZ).mono ?_
        rintro e w9 ⟨A9, c9, rfl, o9, hb9⟩
        have K9 := K3.next hb9
        have o9 := own_base (base' := w.heap.size + 3) o9 K3.size
        clear a0 a1 a2 b0 b1 b2 r0 r1 r2 t0 t1 t2
        clear s0 p0 p1 p2
        have ⟨_, r0, r1, r2⟩ := K9.r
        have t0 := K9.fz (w.heap.size + 2) 0 (by omega) (by omega)
        have t1 := K9.fz (w.heap.size + 2) 1 (by omega) (by omega)
        have t2 := K9.fz (w.heap.size + 2) 2 (by omega) (by omega)
        go_wp2_with fail
        obtain ⟨e1, e2⟩ := K9.done (X := Z.2.1) (Y := Z.1) o9 (Nat.le_refl _)
        rw [HUN2.out]
        refine bodyPost_ret (v := .tuple #[.agg #[.int .i64 Z.2.1, .int .i64 Z.1, .slice A9 (srt (J.swL Z.2.2.1)).length c9], .bool true]) (by simp [results, Try.results50, go_sem, r0, r1, r2]) rfl ?_
        exact ⟨A9, c9, rfl, e2, e1⟩
      · rw [if_neg hz] at hun
        rw [Bool.not_eq_true] at hz
        have HUN2 := Lib.hid hun
        clear hok hun HGZ HUN
        go_wp2_with fail
        rw [HUN2.out]
        have hB := ((K3.below.setCell (p := ⟨w.heap.size + 2, 0, none⟩) (by simp) (.int .i64 0)).setCell (p := ⟨w.heap.size + 2, 1, none⟩) (by simp) (.int .i64 0)).setCell (p := ⟨w.heap.size + 2, 2, none⟩) (by simp) (.slice none 0 0)
        refine bodyPost_ret (v := .tuple #[.agg #[.int .i64 0, .int .i64 0, .slice none 0 0], .bool false]) (by simp [results, Try.results50, go_sem, r0, r1, r2]) rfl ?_
        exact RetT.no hB
    · rw [unT_no fun h => hK h.2]
      have ⟨_, a0, a1, a2⟩ := K0.a
      have ⟨_, b0, b1, b2⟩ := K0.b
      have ⟨_, r0, r1, r2⟩ := K0.r
      have t0 := K0.fz (w.heap.size + 2) 0 (by omega) (by omega)
      have t1 := K0.fz (w.heap.size + 2) 1 (by omega) (by omega)
      have t2 := K0.fz (w.heap.size + 2) 2 (by omega) (by omega)
      have s0 := K0.size
      go_enter Try.func50, Try.ntmps50
      go_wp2_with fail
      rw [← hW1]
      refine (callB_yes (isCut_good W H A _ c L _ rfl hc ((hL.below K0.below).mono K0.below.size) hwf) hG).mono ?_
      rintro e w1 ⟨rfl, hb1⟩
      have K1 := K0.next hb1
      clear a0 a1 a2 b0 b1 b2 r0 r1 r2 t0 t1 t2
      clear K0 hW1 hb1 s0
      have ⟨_, a0, a1, a2⟩ := K1.a
      have ⟨_, b0, b1, b2⟩ := K1.b
      have ⟨_, r0, r1, r2⟩ := K1.r
      have t0 := K1.fz (w.heap.size + 2) 0 (by omega) (by omega)
      have t1 := K1.fz (w.heap.size + 2) 1 (by omega) (by omega)
      have t2 := K1.fz (w.heap.size + 2) 2 (by omega) (by omega)
      have s0 := K1.size
      go_wp2_with fail
      refine (callB_no (isCut_good V G A' _ c' M _ rfl hc' ((hM.below K1.below).mono K1.below.size) hwf') hK).mono ?_
      rintro e w2 ⟨rfl, hb2⟩
      have K2 := K1.next hb2
      clear a0 a1 a2 b0 b1 b2 r0 r1 r2 t0 t1 t2
      clear K1 hb2 s0
      have ⟨_, a0, a1, a2⟩ := K2.a
      have ⟨_, b0, b1, b2⟩ := K2.b
      have ⟨_, r0, r1, r2⟩ := K2.r
      have t0 := K2.fz (w.heap.size + 2) 0 (by omega) (by omega)
      have t1 := K2.fz (w.heap.size + 2) 1 (by omega) (by omega)
      have t2 := K2.fz (w.heap.size + 2) 2 (by omega) (by omega)
      have s0 := K2.size
      go_wp2_with fail
      have hB := ((K2.below.setCell (p := ⟨w.heap.size + 2, 0, none⟩) (by simp) (.int .i64 0)).setCell (p := ⟨w.heap.size + 2, 1, none⟩) (by simp) (.int .i64 0)).setCell (p := ⟨w.heap.size + 2, 2, none⟩) (by simp) (.slice none 0 0)
      refine bodyPost_ret (v := .tuple #[.agg #[.int .i64 0, .int .i64 0, .slice none 0 0], .bool false]) (by simp [results, Try.results50, go_sem, r0, r1, r2]) rfl ?_
      exact RetT.no hB
  · rw [unT_no fun h => hG h.1]
    have ⟨_, a0, a1, a2⟩ := K0.a
    have ⟨_, b0, b1, b2⟩ := K0.b
    have ⟨_, r0, r1, r2⟩ := K0.r
    have t0 := K0.fz (w.heap.size + 2) 0 (by omega) (by omega)
    have t1 := K0.fz (w.heap.size + 2) 1 (by omega) (by omega)
    have t2 := K0.fz (w.heap.size + 2) 2 (by omega) (by omega)
    have s0 := K0.size
    go_enter Try.func50, Try.ntmps50
    go_wp2_with fail
    rw [← hW1]
    refine (callB_no (isCut_good W H A _ c L _ rfl hc ((hL.below K0.below).mono K0.below.size) hwf) hG).mono ?_
    rintro e w1 ⟨rfl, hb1⟩
    have K1 := K0.next hb1
    clear a0 a1 a2 b0 b1 b2 r0 r1 r2 t0 t1 t2
    clear K0 hW1 hb1 s0
    have ⟨_, a0, a1, a2⟩ := K1.a
    have ⟨_, b0, b1, b2⟩ := K1.b
    have ⟨_, r0, r1, r2⟩ := K1.r
    have t0 := K1.fz (w.heap.size + 2) 0 (by omega) (by omega)
    have t1 := K1.fz (w.heap.size + 2) 1 (by omega) (by omega)
    have t2 := K1.fz (w.heap.size + 2) 2 (by omega) (by omega)
    have s0 := K1.size
    go_wp2_with fail
    have hB := ((K1.below.setCell (p := ⟨w.heap.size + 2, 0, none⟩) (by simp) (.int .i64 0)).setCell (p := ⟨w.heap.size + 2, 1, none⟩) (by simp) (.int .i64 0)).setCell (p := ⟨w.heap.size + 2, 2, none⟩) (by simp) (.slice none 0 0)
    refine bodyPost_ret (v := .tuple #[.agg #[.int .i64 0, .int .i64 0, .slice none 0 0], .bool false]) (by simp [results, Try.results50, go_sem, r0, r1, r2]) rfl ?_
    exact RetT.no hB
end Go.Proofs.Ytnnhgblgbbfmpaa
