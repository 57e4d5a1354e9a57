/- The walk of FnExactPartDown. -/
import Derived.Test.YtilneimiedfjnaaSzL
import Derived.Test.YtilneimiedfjnaaPtA
set_option linter.all false
namespace Go.Proofs.Ytilneimiedfjnaa
open Go.RowKit

set_option maxRecDepth 100000 in
set_option maxHeartbeats 8000000 in
theorem lawPartDown (W H : Int) (A : Option Addr) (n c : Nat) (L : List Sq) (w : World) (hl : L.length = n) (hc : n ≤ c) (hn : n ≤ 1048576) (hL : SqsAt w w.heap.size A L) (hwf : ∀ s ∈ L, wfS s) :
    Calls Try.prog 8 #[.agg #[.int .i64 W, .int .i64 H, .slice A n c]] w fun e w' => e = .returned (.bool true) ∧ Below w.heap.size w w' := by
  subst hl
  obtain ⟨Z, hZ⟩ : ∃ Z, dnPt W H L = Z := ⟨_, rfl⟩
  have hRR : Z.l1.length ≤ 1048576 ∧ Z.l2.length ≤ 1048576 := by rw [← hZ]; exact dnPt_len W H L hn
  have hR1 := hRR.1
  have hR2 := hRR.2
  clear hRR
  have HZ := Lib.hid hZ
  clear hZ
  have h1 : (Z.ok != Z.ok) = false := by simp
  have ba := Bx.start w W H A L.length c 24
  have HB : Below w.heap.size w (w.alloc (.cells #[.int .i64 W, .int .i64 H, .slice A L.length c] 24)) := (Below.refl _ _).alloc (Nat.le_refl _) _
  go_enter Try.func8, Try.ntmps8
  go_wp2_with fail
  obtain ⟨W1, hW1⟩ : ∃ W1, W1 = (w.alloc (.cells #[.int .i64 W, .int .i64 H, .slice A L.length c] 24)) := ⟨_, rfl⟩
  have hs_0 : w.heap.size + 1 = W1.heap.size := by rw [hW1]; simp
  rw [← hW1] at ba HB ⊢
  clear hW1
  refine (szCutL_ok W H A L.length c 1048576 W1 (by decide) (by omega)).mono ?_
  rintro e w1 ⟨rfl, hb⟩
  have hs_1 := hb.size
  replace HB := HB.trans (hb.mono HB.size)
  replace ba := ba.next hb
  clear hb
  have h' : ¬ (1048576 : Int) - L.length < 0 := by omega
  obtain ⟨ul, u0, u1, u2⟩ := id ba
  go_wp2_with fail
  clear ul u0 u1 u2
  refine (toCut_any W H A L.length c L w1 rfl hc hn ((hL.below HB).mono HB.size)).mono ?_
  rintro e w2 ⟨gs, rfl, hb, os⟩
  have hs_2 := hb.size
  replace HB := HB.trans (hb.mono HB.size)
  replace ba := ba.next hb
  clear hb
  go_wp2_with fail
  refine (specPartDown_any W H _ _ _ L w2 rfl (Nat.le_refl _) (sqs_of_own os)).mono ?_
  rintro e w3 hret
  rw [HZ.out] at hret
  obtain ⟨A0, c0, B0, d0, rfl, o0, p0, _, hb⟩ := hret
  have hk0 := own_in o0
  have hkp := own_in p0
  have hs_3 := hb.size
  replace HB := HB.trans (hb.mono HB.size)
  replace ba := ba.next hb
  replace os := own_keep os hb
  clear hb
  clear os
  obtain ⟨ul, u0, u1, u2⟩ := id ba
  go_wp2_with fail
  clear ul u0 u1 u2
  obtain ⟨w3a, hW⟩ : ∃ w3a, w3a = w3.alloc (.cells #[.int .i64 Z.x1, .int .i64 Z.y1, .slice A0 Z.l1.length c0] 29) := ⟨_, rfl⟩
  have hb : Below w3.heap.size w3 w3a := by rw [hW]; exact (Below.refl _ _).alloc (Nat.le_refl _) _
  have bw : Bx w3.heap.size w3a Z.x1 Z.y1 A0 Z.l1.length c0 := by rw [hW]; exact Bx.start _ _ _ _ _ _ _
  have hl_bw := bw.lt
  rw [← hW]
  have hq : w3a.heap.size = w3.heap.size + 1 := by rw [hW]; simp
  clear hW
  have hs_4 := hb.size
  replace HB := HB.trans (hb.mono HB.size)
  replace ba := ba.next hb
  replace o0 := own_keep o0 hb
  replace p0 := own_keep p0 hb
  clear hb
  obtain ⟨w3b, hW⟩ : ∃ w3b, w3b = w3a.alloc (.cells #[.int .i64 Z.x2, .int .i64 Z.y2, .slice B0 Z.l2.length d0] 29) := ⟨_, rfl⟩
  have hb : Below w3a.heap.size w3a w3b := by rw [hW]; exact (Below.refl _ _).alloc (Nat.le_refl _) _
  have bv : Bx w3a.heap.size w3b Z.x2 Z.y2 B0 Z.l2.length d0 := by rw [hW]; exact Bx.start _ _ _ _ _ _ _
  have hl_bv := bv.lt
  rw [← hW]
  clear hW
  have hs_5 := hb.size
  replace HB := HB.trans (hb.mono HB.size)
  replace ba := ba.next hb
  replace bw := bw.next hb
  replace o0 := own_keep o0 hb
  replace p0 := own_keep p0 hb
  clear hb
  rw [hq] at bv hl_bv
  clear hq
  refine (toCut_any W H A L.length c L w3b rfl hc hn ((hL.below HB).mono HB.size)).mono ?_
  rintro e w4 ⟨gx, rfl, hb, ox⟩
  have hgx := own_lt ox
  have hkx := own_in ox
  have hs_6 := hb.size
  replace HB := HB.trans (hb.mono HB.size)
  replace ba := ba.next hb
  replace bw := bw.next hb
  replace bv := bv.next hb
  replace o0 := own_keep o0 hb
  replace p0 := own_keep p0 hb
  clear hb
  go_wp2_with fail
  obtain ⟨W5, hW⟩ : ∃ W5, W5 = w4.alloc (.cells #[.int .i64 W, .int .i64 H, .slice (some ⟨gx, 0, none⟩) L.length L.length] 29) := ⟨_, rfl⟩
  have hb : Below w4.heap.size w4 W5 := by rw [hW]; exact (Below.refl _ _).alloc (Nat.le_refl _) _
  have bx : Bx w4.heap.size W5 W H (some ⟨gx, 0, none⟩) L.length L.length := by rw [hW]; exact Bx.start _ _ _ _ _ _ _
  have hl_bx := bx.lt
  rw [← hW]
  clear hW
  have hs_7 := hb.size
  replace HB := HB.trans (hb.mono HB.size)
  replace ba := ba.next hb
  replace bw := bw.next hb
  replace bv := bv.next hb
  replace o0 := own_keep o0 hb
  replace p0 := own_keep p0 hb
  replace ox := own_keep ox hb
  clear hb
  refine (implPartDown_any W H _ _ _ L W5 rfl (Nat.le_refl _) (sqs_of_own ox) hwf).mono ?_
  rintro e w8 hret
  rw [HZ.out] at hret
  obtain ⟨Ag, cg, Bg, dg, rfl, og, pg, hdg, hb⟩ := hret
  have hkg := own_in og
  have hkq := own_in pg
  have hs_8 := hb.size
  replace HB := HB.trans (hb.mono HB.size)
  replace ba := ba.next hb
  replace bw := bw.next hb
  replace bv := bv.next hb
  replace bx := bx.next hb
  replace o0 := own_keep o0 hb
  replace p0 := own_keep p0 hb
  replace ox := own_keep ox hb
  clear hb
  obtain ⟨pl, p0, p1, p2⟩ := id bw
  go_wp2_with fail
  clear pl p0 p1 p2
  obtain ⟨W9, hW⟩ : ∃ W9, W9 = w8.alloc (.cells #[.int .i64 Z.x1, .int .i64 Z.y1, .slice Ag Z.l1.length cg] 29) := ⟨_, rfl⟩
  have hb : Below w8.heap.size w8 W9 := by rw [hW]; exact (Below.refl _ _).alloc (Nat.le_refl _) _
  have bg : Bx w8.heap.size W9 Z.x1 Z.y1 Ag Z.l1.length cg := by rw [hW]; exact Bx.start _ _ _ _ _ _ _
  have hl_bg := bg.lt
  rw [← hW]
  have hq : W9.heap.size = w8.heap.size + 1 := by rw [hW]; simp
  clear hW
  have hs_9 := hb.size
  replace HB := HB.trans (hb.mono HB.size)
  replace ba := ba.next hb
  replace bw := bw.next hb
  replace bv := bv.next hb
  replace bx := bx.next hb
  replace o0 := own_keep o0 hb
  replace p0 := own_keep p0 hb
  replace ox := own_keep ox hb
  replace og := own_keep og hb
  replace pg := own_keep pg hb
  clear hb
  obtain ⟨W9b, hW⟩ : ∃ W9b, W9b = W9.alloc (.cells #[.int .i64 Z.x2, .int .i64 Z.y2, .slice Bg Z.l2.length dg] 29) := ⟨_, rfl⟩
  have hb : Below W9.heap.size W9 W9b := by rw [hW]; exact (Below.refl _ _).alloc (Nat.le_refl _) _
  have bq : Bx W9.heap.size W9b Z.x2 Z.y2 Bg Z.l2.length dg := by rw [hW]; exact Bx.start _ _ _ _ _ _ _
  have hl_bq := bq.lt
  rw [← hW]
  clear hW
  have hs_10 := hb.size
  replace HB := HB.trans (hb.mono HB.size)
  replace ba := ba.next hb
  replace bw := bw.next hb
  replace bv := bv.next hb
  replace bx := bx.next hb
  replace bg := bg.next hb
  replace o0 := own_keep o0 hb
  replace p0 := own_keep p0 hb
  replace ox := own_keep ox hb
  replace og := own_keep og hb
  replace pg := own_keep pg hb
  clear hb
  rw [hq] at bq hl_bq
  clear hq
  refine (eqCut_same Z.x1 Z.y1 Ag A0 Z.l1.length cg c0 Z.l1 _ rfl hR1 (own_cap og) (own_cap o0) (sqs_of_own og) (sqs_of_own o0)).mono ?_
  rintro e w10 ⟨rfl, hb⟩
  have hs_11 := hb.size
  replace HB := HB.trans (hb.mono HB.size)
  replace ba := ba.next hb
  replace bw := bw.next hb
  replace bv := bv.next hb
  replace bx := bx.next hb
  replace bg := bg.next hb
  replace bq := bq.next hb
  replace o0 := own_keep o0 hb
  replace p0 := own_keep p0 hb
  replace ox := own_keep ox hb
  replace og := own_keep og hb
  replace pg := own_keep pg hb
  clear hb
  obtain ⟨pl, p0, p1, p2⟩ := id bv
  obtain ⟨ql, q0, q1, q2⟩ := id bq
  go_wp2_with fail
  clear pl p0 p1 p2 ql q0 q1 q2
  refine (eqCut_same Z.x2 Z.y2 Bg B0 Z.l2.length dg d0 Z.l2 _ rfl hR2 (own_cap pg) (own_cap p0) (sqs_of_own pg) (sqs_of_own p0)).mono ?_
  rintro e w11 ⟨rfl, hb⟩
  have hs_12 := hb.size
  replace HB := HB.trans (hb.mono HB.size)
  replace ba := ba.next hb
  replace bw := bw.next hb
  replace bv := bv.next hb
  replace bx := bx.next hb
  replace bg := bg.next hb
  replace bq := bq.next hb
  replace o0 := own_keep o0 hb
  replace p0 := own_keep p0 hb
  replace ox := own_keep ox hb
  replace og := own_keep og hb
  replace pg := own_keep pg hb
  clear hb
  obtain ⟨xl, x0, x1, x2⟩ := id bx
  obtain ⟨ul, u0, u1, u2⟩ := id ba
  have hX := sqs_of_own ox
  have hT := (hL.below HB).mono HB.size
  go_wp2_with fail
  go_region_held3 (fun w' => Below w11.heap.size w11 w' ∧ w11.heap.size ≤ w'.heap.size ∧ ∀ b o, b < w11.heap.size → w'.cell? ⟨b, o, none⟩ = w11.cell? ⟨b, o, none⟩)
    (first | exact keepS (by assumption) (by assumption) | exact ⟨(Below.refl _ _).drew, Nat.le_refl _, fun _ _ _ => rfl⟩)
    (first
      | (go_at_call 17; refine (toCut_any W H A L.length c L _ rfl hc hn (sqsS hT (by assumption))).mono ?_; rintro e wt ⟨gt, rfl, hbt, hot⟩)
      | (go_at_call 20; refine (eqCut_same W H _ _ _ _ _ L _ rfl hn (Nat.le_refl _) (Nat.le_refl _) (sqsS hX (by assumption)) (sqs_of_own (by assumption))).mono ?_; rintro e w12 ⟨rfl, hbe⟩))
  have hb := belowS (B := w11.heap.size) (wp := w12) (by assumption)
  clear xl x0 x1 x2 ul u0 u1 u2
  clear hX hT
  have hs_13 := hb.size
  replace HB := HB.trans (hb.mono HB.size)
  replace ba := ba.next hb
  replace bw := bw.next hb
  replace bv := bv.next hb
  replace bx := bx.next hb
  replace bg := bg.next hb
  replace bq := bq.next hb
  replace o0 := own_keep o0 hb
  replace p0 := own_keep p0 hb
  replace ox := own_keep ox hb
  replace og := own_keep og hb
  replace pg := own_keep pg hb
  clear hb
  obtain ⟨xl, x0, x1, x2⟩ := id bx
  go_wp2_with fail
  clear xl x0 x1 x2
  refine (markCut_any W H _ _ _ _ _ 1 _ hn (by decide) (by decide) ox).mono ?_
  rintro e w13 ⟨rfl, hox, hgr⟩
  have hs_14 := hgr.size
  have hz_14 := HB.size
  replace HB := HB.grown hgr HB.size (fun k he => by simp [Value.ownBlock] at he; omega)
  replace ba := ba.far hgr (fun he => by simp [Value.ownBlock] at he; omega)
  replace bw := bw.far hgr (fun he => by simp [Value.ownBlock] at he; omega)
  replace bv := bv.far hgr (fun he => by simp [Value.ownBlock] at he; omega)
  replace bx := bx.far hgr (fun he => by simp [Value.ownBlock] at he; omega)
  replace bg := bg.far hgr (fun he => by simp [Value.ownBlock] at he; omega)
  replace bq := bq.far hgr (fun he => by simp [Value.ownBlock] at he; omega)
  replace o0 := own_far o0 hgr (fun k hk he => by have := hk0.out k hk; simp [Value.ownBlock] at he; omega)
  replace p0 := own_far p0 hgr (fun k hk he => by have := hkp.out k hk; simp [Value.ownBlock] at he; omega)
  replace og := own_far og hgr (fun k hk he => by have := hkg.out k hk; simp [Value.ownBlock] at he; omega)
  replace pg := own_far pg hgr (fun k hk he => by have := hkq.out k hk; simp [Value.ownBlock] at he; omega)
  clear hgr
  clear ox hox bx
  have h2 : ¬ (1 : Int) + 3 * L.length < 0 := by omega
  obtain ⟨pl, p0, p1, p2⟩ := id bw
  obtain ⟨ql, q0, q1, q2⟩ := id bg
  go_wp2_with fail
  clear pl p0 p1 p2 ql q0 q1 q2
  refine (eqCut_same Z.x1 Z.y1 Ag A0 Z.l1.length cg c0 Z.l1 _ rfl hR1 (own_cap og) (own_cap o0) (sqs_of_own og) (sqs_of_own o0)).mono ?_
  rintro e w15 ⟨rfl, hb⟩
  have hs_15 := hb.size
  replace HB := HB.trans (hb.mono HB.size)
  replace ba := ba.next hb
  replace bw := bw.next hb
  replace bv := bv.next hb
  replace bg := bg.next hb
  replace bq := bq.next hb
  replace o0 := own_keep o0 hb
  replace p0 := own_keep p0 hb
  replace og := own_keep og hb
  replace pg := own_keep pg hb
  clear hb
  obtain ⟨pl, p0, p1, p2⟩ := id bv
  obtain ⟨ql, q0, q1, q2⟩ := id bq
  go_wp2_with fail
  clear pl p0 p1 p2 ql q0 q1 q2
  refine (eqCut_same Z.x2 Z.y2 Bg B0 Z.l2.length dg d0 Z.l2 _ rfl hR2 (own_cap pg) (own_cap p0) (sqs_of_own pg) (sqs_of_own p0)).mono ?_
  rintro e w16 ⟨rfl, hb⟩
  have hs_16 := hb.size
  replace HB := HB.trans (hb.mono HB.size)
  replace ba := ba.next hb
  replace bw := bw.next hb
  replace bv := bv.next hb
  replace bg := bg.next hb
  replace bq := bq.next hb
  replace o0 := own_keep o0 hb
  replace p0 := own_keep p0 hb
  replace og := own_keep og hb
  replace pg := own_keep pg hb
  clear hb
  obtain ⟨ql, q0, q1, q2⟩ := id bg
  go_wp2_with fail
  clear ql q0 q1 q2
  refine (markCut_any Z.x1 Z.y1 Ag Z.l1.length cg _ _ 1 _ hR1 (by decide) (by decide) og).mono ?_
  rintro e w17 ⟨rfl, hog, hgr⟩
  have hs_17 := hgr.size
  have hz_17 := HB.size
  replace HB := HB.grown hgr HB.size (fun k he => by have := hkg.out _ he; omega)
  replace ba := ba.far hgr (fun he => by have := hkg.out _ he; omega)
  replace bw := bw.far hgr (fun he => by have := hkg.out _ he; omega)
  replace bv := bv.far hgr (fun he => by have := hkg.out _ he; omega)
  replace bg := bg.far hgr (fun he => by have := hkg.out _ he; omega)
  replace bq := bq.far hgr (fun he => by have := hkg.out _ he; omega)
  replace o0 := own_far o0 hgr (fun k hk he => by have := hk0.out k hk; have := hkg.out _ he; omega)
  replace p0 := own_far p0 hgr (fun k hk he => by have := hkp.out k hk; have := hkg.out _ he; omega)
  replace pg := own_far pg hgr (fun k hk he => hdg k he hk)
  clear hgr
  replace og := hog
  clear hog
  obtain ⟨ql, q0, q1, q2⟩ := id bq
  go_wp2_with fail
  clear ql q0 q1 q2
  refine (markCut_any Z.x2 Z.y2 Bg Z.l2.length dg _ _ (1 + 3 * Z.l1.length) _ hR2 (by omega) (by omega) pg).mono ?_
  rintro e w18 ⟨rfl, hpg, hgr⟩
  have hs_18 := hgr.size
  have hz_18 := HB.size
  replace HB := HB.grown hgr HB.size (fun k he => by have := hkq.out _ he; omega)
  replace ba := ba.far hgr (fun he => by have := hkq.out _ he; omega)
  replace bw := bw.far hgr (fun he => by have := hkq.out _ he; omega)
  replace bv := bv.far hgr (fun he => by have := hkq.out _ he; omega)
  replace bg := bg.far hgr (fun he => by have := hkq.out _ he; omega)
  replace bq := bq.far hgr (fun he => by have := hkq.out _ he; omega)
  replace o0 := own_far o0 hgr (fun k hk he => by have := hk0.out k hk; have := hkq.out _ he; omega)
  replace p0 := own_far p0 hgr (fun k hk he => by have := hkp.out k hk; have := hkq.out _ he; omega)
  replace og := own_far og hgr (fun k hk he => hdg k hk he)
  clear hgr
  replace pg := hpg
  clear hpg
  have h3 : ¬ (1 : Int) + 3 * Z.l1.length < 0 := by omega
  have h4 : ¬ (1 : Int) + 3 * Z.l1.length + 3 * Z.l2.length < 0 := by omega
  obtain ⟨ql, q0, q1, q2⟩ := id bg
  go_wp2_with fail
  clear ql q0 q1 q2
  refine (heldCut_any Z.x1 Z.y1 Ag Z.l1.length cg 1 _ hR1 (by decide) (by decide) (sqs_of_own og)).mono ?_
  rintro e w19 ⟨rfl, hb⟩
  have hs_19 := hb.size
  replace HB := HB.trans (hb.mono HB.size)
  replace ba := ba.next hb
  replace bw := bw.next hb
  replace bv := bv.next hb
  replace bg := bg.next hb
  replace bq := bq.next hb
  replace o0 := own_keep o0 hb
  replace p0 := own_keep p0 hb
  replace og := own_keep og hb
  replace pg := own_keep pg hb
  clear hb
  obtain ⟨ql, q0, q1, q2⟩ := id bq
  go_wp2_with fail
  clear ql q0 q1 q2
  refine (heldCut_any Z.x2 Z.y2 Bg Z.l2.length dg (1 + 3 * Z.l1.length) _ hR2 (by omega) (by omega) (sqs_of_own pg)).mono ?_
  rintro e w20 ⟨rfl, hb⟩
  have hs_20 := hb.size
  replace HB := HB.trans (hb.mono HB.size)
  replace ba := ba.next hb
  replace bw := bw.next hb
  replace bv := bv.next hb
  replace bg := bg.next hb
  replace bq := bq.next hb
  replace o0 := own_keep o0 hb
  replace p0 := own_keep p0 hb
  replace og := own_keep og hb
  replace pg := own_keep pg hb
  clear hb
  obtain ⟨ul, u0, u1, u2⟩ := id ba
  go_wp2_with fail
  clear ul u0 u1 u2
  refine (toCut_any W H A L.length c L w20 rfl hc hn ((hL.below HB).mono HB.size)).mono ?_
  rintro e w21 ⟨gt, rfl, hb, ot⟩
  have hs_21 := hb.size
  replace HB := HB.trans (hb.mono HB.size)
  replace ba := ba.next hb
  replace bw := bw.next hb
  replace bv := bv.next hb
  replace bg := bg.next hb
  replace bq := bq.next hb
  replace o0 := own_keep o0 hb
  replace p0 := own_keep p0 hb
  replace og := own_keep og hb
  replace pg := own_keep pg hb
  clear hb
  go_wp2_with fail
  refine (implPartDown_any W H _ _ _ L w21 rfl (Nat.le_refl _) (sqs_of_own ot) hwf).mono ?_
  rintro e w22 hret
  rw [HZ.out] at hret
  obtain ⟨Ah, ch, Bh, dh, rfl, oh, ph, _, hb⟩ := hret
  have hs_22 := hb.size
  replace HB := HB.trans (hb.mono HB.size)
  replace ba := ba.next hb
  replace bw := bw.next hb
  replace bv := bv.next hb
  replace bg := bg.next hb
  replace bq := bq.next hb
  replace o0 := own_keep o0 hb
  replace p0 := own_keep p0 hb
  replace og := own_keep og hb
  replace pg := own_keep pg hb
  replace ot := own_keep ot hb
  clear hb
  clear ot
  obtain ⟨pl, p0, p1, p2⟩ := id bw
  go_wp2_with fail
  clear pl p0 p1 p2
  obtain ⟨W23, hW⟩ : ∃ W23, W23 = w22.alloc (.cells #[.int .i64 Z.x1, .int .i64 Z.y1, .slice Ah Z.l1.length ch] 29) := ⟨_, rfl⟩
  have hb : Below w22.heap.size w22 W23 := by rw [hW]; exact (Below.refl _ _).alloc (Nat.le_refl _) _
  have bh : Bx w22.heap.size W23 Z.x1 Z.y1 Ah Z.l1.length ch := by rw [hW]; exact Bx.start _ _ _ _ _ _ _
  have hl_bh := bh.lt
  rw [← hW]
  have hq : W23.heap.size = w22.heap.size + 1 := by rw [hW]; simp
  clear hW
  have hs_23 := hb.size
  replace HB := HB.trans (hb.mono HB.size)
  replace ba := ba.next hb
  replace bw := bw.next hb
  replace bv := bv.next hb
  replace bg := bg.next hb
  replace bq := bq.next hb
  replace o0 := own_keep o0 hb
  replace p0 := own_keep p0 hb
  replace og := own_keep og hb
  replace pg := own_keep pg hb
  replace oh := own_keep oh hb
  replace ph := own_keep ph hb
  clear hb
  obtain ⟨W23b, hW⟩ : ∃ W23b, W23b = W23.alloc (.cells #[.int .i64 Z.x2, .int .i64 Z.y2, .slice Bh Z.l2.length dh] 29) := ⟨_, rfl⟩
  have hb : Below W23.heap.size W23 W23b := by rw [hW]; exact (Below.refl _ _).alloc (Nat.le_refl _) _
  have bk : Bx W23.heap.size W23b Z.x2 Z.y2 Bh Z.l2.length dh := by rw [hW]; exact Bx.start _ _ _ _ _ _ _
  have hl_bk := bk.lt
  rw [← hW]
  clear hW
  have hs_24 := hb.size
  replace HB := HB.trans (hb.mono HB.size)
  replace ba := ba.next hb
  replace bw := bw.next hb
  replace bv := bv.next hb
  replace bg := bg.next hb
  replace bq := bq.next hb
  replace bh := bh.next hb
  replace o0 := own_keep o0 hb
  replace p0 := own_keep p0 hb
  replace og := own_keep og hb
  replace pg := own_keep pg hb
  replace oh := own_keep oh hb
  replace ph := own_keep ph hb
  clear hb
  rw [hq] at bk hl_bk
  clear hq
  refine (eqCut_same Z.x1 Z.y1 Ah A0 Z.l1.length ch c0 Z.l1 _ rfl hR1 (own_cap oh) (own_cap o0) (sqs_of_own oh) (sqs_of_own o0)).mono ?_
  rintro e w24 ⟨rfl, hb⟩
  have hs_25 := hb.size
  replace HB := HB.trans (hb.mono HB.size)
  replace ba := ba.next hb
  replace bw := bw.next hb
  replace bv := bv.next hb
  replace bg := bg.next hb
  replace bq := bq.next hb
  replace bh := bh.next hb
  replace bk := bk.next hb
  replace o0 := own_keep o0 hb
  replace p0 := own_keep p0 hb
  replace og := own_keep og hb
  replace pg := own_keep pg hb
  replace oh := own_keep oh hb
  replace ph := own_keep ph hb
  clear hb
  obtain ⟨pl, p0, p1, p2⟩ := id bv
  obtain ⟨ql, q0, q1, q2⟩ := id bk
  go_wp2_with fail
  clear pl p0 p1 p2 ql q0 q1 q2
  refine (eqCut_same Z.x2 Z.y2 Bh B0 Z.l2.length dh d0 Z.l2 _ rfl hR2 (own_cap ph) (own_cap p0) (sqs_of_own ph) (sqs_of_own p0)).mono ?_
  rintro e w25 ⟨rfl, hb⟩
  have hs_26 := hb.size
  replace HB := HB.trans (hb.mono HB.size)
  replace ba := ba.next hb
  replace bw := bw.next hb
  replace bv := bv.next hb
  replace bg := bg.next hb
  replace bq := bq.next hb
  replace bh := bh.next hb
  replace bk := bk.next hb
  replace o0 := own_keep o0 hb
  replace p0 := own_keep p0 hb
  replace og := own_keep og hb
  replace pg := own_keep pg hb
  replace oh := own_keep oh hb
  replace ph := own_keep ph hb
  clear hb
  obtain ⟨ql, q0, q1, q2⟩ := id bg
  go_wp2_with fail
  clear ql q0 q1 q2
  refine (heldCut_any Z.x1 Z.y1 Ag Z.l1.length cg 1 _ hR1 (by decide) (by decide) (sqs_of_own og)).mono ?_
  rintro e w26 ⟨rfl, hb⟩
  have hs_27 := hb.size
  replace HB := HB.trans (hb.mono HB.size)
  replace ba := ba.next hb
  replace bw := bw.next hb
  replace bv := bv.next hb
  replace bg := bg.next hb
  replace bq := bq.next hb
  replace bh := bh.next hb
  replace bk := bk.next hb
  replace o0 := own_keep o0 hb
  replace p0 := own_keep p0 hb
  replace og := own_keep og hb
  replace pg := own_keep pg hb
  replace oh := own_keep oh hb
  replace ph := own_keep ph hb
  clear hb
  obtain ⟨ql, q0, q1, q2⟩ := id bq
  go_wp2_with fail
  clear ql q0 q1 q2
  refine (heldCut_any Z.x2 Z.y2 Bg Z.l2.length dg (1 + 3 * Z.l1.length) _ hR2 (by omega) (by omega) (sqs_of_own pg)).mono ?_
  rintro e w27 ⟨rfl, hb⟩
  have hs_28 := hb.size
  replace HB := HB.trans (hb.mono HB.size)
  replace ba := ba.next hb
  replace bw := bw.next hb
  replace bv := bv.next hb
  replace bg := bg.next hb
  replace bq := bq.next hb
  replace bh := bh.next hb
  replace bk := bk.next hb
  replace o0 := own_keep o0 hb
  replace p0 := own_keep p0 hb
  replace og := own_keep og hb
  replace pg := own_keep pg hb
  replace oh := own_keep oh hb
  replace ph := own_keep ph hb
  clear hb
  go_wp2_with fail
  go_ret
  exact ⟨rfl, HB⟩
theorem lawPartDown_over (W H : Int) (A : Option Addr) (n c : Nat) (L : List Sq) (w : World) (h : 1048576 < n) (hn : n ≤ 9223372036854775807) :
    Calls Try.prog 8 #[.agg #[.int .i64 W, .int .i64 H, .slice A n c]] w fun e w' => e = .returned (.bool true) ∧ Below w.heap.size w w' := by
  have HB : Below w.heap.size w (w.alloc (.cells #[.int .i64 W, .int .i64 H, .slice A n c] 24)) := (Below.refl _ _).alloc (Nat.le_refl _) _
  go_enter Try.func8, Try.ntmps8
  go_wp2_with fail
  refine (szCutL_over W H A n c 1048576 _ (by decide) (by decide) (by omega) hn).mono ?_
  rintro e w1 ⟨rfl, hb⟩
  go_wp2_with fail
  go_ret
  exact ⟨rfl, HB.trans (hb.mono HB.size)⟩
end Go.Proofs.Ytilneimiedfjnaa
