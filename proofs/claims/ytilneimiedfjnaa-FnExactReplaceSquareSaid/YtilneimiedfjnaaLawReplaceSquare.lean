/- The walk of FnExactReplaceSquare. -/
import Derived.Test.YtilneimiedfjnaaSzL
import Derived.Deep.DeepCutAuto
import Derived.Test.YtilneimiedfjnaaRepS
import Derived.Test.YtilneimiedfjnaaRepI
namespace Go.Proofs.Ytilneimiedfjnaa
open Go.RowKit

set_option linter.all false
set_option maxRecDepth 100000 in
set_option maxHeartbeats 16000000 in
theorem lawReplaceSquare (W H : Int) (A : Option Addr) (n c : Nat) (L : List Sq) (k0 : Int) (V G : Int) (A' : Option Addr) (n' c' : Nat) (M : List Sq) (w : World) (hl : L.length = n) (hl' : M.length = n') (hc : n ≤ c) (hc' : n' ≤ c') (hn : n + n' ≤ 1048576) (hL : SqsAt w w.heap.size A L) (hM : SqsAt w w.heap.size A' M) (hwf : ∀ s ∈ L, wfS s) (hwf' : ∀ s ∈ M, wfS s) :
    Calls Try.prog 4 #[.agg #[.int .i64 W, .int .i64 H, .slice A n c], .int .i64 k0, .agg #[.int .i64 V, .int .i64 G, .slice A' n' c']] w fun e w' => e = .returned (.bool true) ∧ Below w.heap.size w w' := by
  subst hl
  subst hl'
  obtain ⟨Z, hZ⟩ : ∃ Z, repT W H L k0 V G M = Z := ⟨_, rfl⟩
  have hRn : Z.2.2.1.length ≤ 1048576 := by rw [← hZ]; exact Nat.le_trans (repT_len W H L k0 V G M) (by decide)
  have HZ := Lib.hid hZ
  clear hZ
  have h1 : (Z.2.2.2 != Z.2.2.2) = false := by simp
  have ba := (Bx.start w W H A L.length c 24).next ((Below.refl _ _).alloc (Nat.le_refl _) (.cells #[.int .i64 V, .int .i64 G, .slice A' M.length c'] 24))
  have bb : Bx (w.heap.size + 1) ((w.alloc (.cells #[.int .i64 W, .int .i64 H, .slice A L.length c] 24)).alloc (.cells #[.int .i64 V, .int .i64 G, .slice A' M.length c'] 24)) V G A' M.length c' := by simpa using Bx.start (w.alloc (.cells #[.int .i64 W, .int .i64 H, .slice A L.length c] 24)) V G A' M.length c' 24
  have HB : Below w.heap.size w ((w.alloc (.cells #[.int .i64 W, .int .i64 H, .slice A L.length c] 24)).alloc (.cells #[.int .i64 V, .int .i64 G, .slice A' M.length c'] 24)) := ((Below.refl _ _).alloc (Nat.le_refl _) _).alloc (by simp) _
  go_enter Try.func4, Try.ntmps4
  go_wp2_with fail
  obtain ⟨W1, hW1⟩ : ∃ W1, W1 = ((w.alloc (.cells #[.int .i64 W, .int .i64 H, .slice A L.length c] 24)).alloc (.cells #[.int .i64 V, .int .i64 G, .slice A' M.length c'] 24)) := ⟨_, rfl⟩
  have hs_0 : w.heap.size + 2 = W1.heap.size := by rw [hW1]; simp
  rw [← hW1] at ba bb HB ⊢
  clear hW1
  refine (szCutL_ok W H A L.length c 1048576 W1 (by decide) (by omega)).mono ?_
  rintro e w1 ⟨rfl, hb⟩
  have hs_1 := hb.size
  replace HB := HB.trans (hb.mono HB.size)
  replace ba := ba.next hb
  replace bb := bb.next hb
  clear hb
  have h' : ¬ (1048576 : Int) - L.length < 0 := by omega
  obtain ⟨vl, v0, v1, v2⟩ := id bb
  go_wp2_with fail
  clear vl v0 v1 v2
  refine (szCutL_ok V G A' M.length c' _ w1 (by omega) (by omega)).mono ?_
  rintro e w2 ⟨rfl, hb⟩
  have hs_2 := hb.size
  replace HB := HB.trans (hb.mono HB.size)
  replace ba := ba.next hb
  replace bb := bb.next hb
  clear hb
  have h'' : ¬ (1048576 : Int) - L.length - M.length < 0 := by omega
  obtain ⟨ul, u0, u1, u2⟩ := id ba
  obtain ⟨vl, v0, v1, v2⟩ := id bb
  have hLc : ∀ w' : World, Below w2.heap.size w2 w' → SqsAt w' w'.heap.size A L := fun w' hb => (hL.below (HB.trans (hb.mono HB.size))).mono (Nat.le_trans HB.size hb.size)
  have hMc : ∀ w' : World, Below w2.heap.size w2 w' → SqsAt w' w'.heap.size A' M := fun w' hb => (hM.below (HB.trans (hb.mono HB.size))).mono (Nat.le_trans HB.size hb.size)
  have C1 : ∀ w' : World, (Below w2.heap.size w2 w' ∧ w2.heap.size ≤ w'.heap.size ∧ ∀ b o, b < w2.heap.size → w'.cell? ⟨b, o, none⟩ = w2.cell? ⟨b, o, none⟩) → Calls Try.prog 17 #[.agg #[.int .i64 W, .int .i64 H, .slice A L.length c]] w' fun e w'' => OwnCut w' w'' W H L e := fun w' hS => toCut_any W H A L.length c L w' rfl hc (by omega) (hLc w' hS.1)
  have C2 : ∀ w' : World, (Below w2.heap.size w2 w' ∧ w2.heap.size ≤ w'.heap.size ∧ ∀ b o, b < w2.heap.size → w'.cell? ⟨b, o, none⟩ = w2.cell? ⟨b, o, none⟩) → Calls Try.prog 17 #[.agg #[.int .i64 V, .int .i64 G, .slice A' M.length c']] w' fun e w'' => OwnCut w' w'' V G M e := fun w' hS => toCut_any V G A' M.length c' M w' rfl hc' (by omega) (hMc w' hS.1)
  go_upto_region 9 with fail
  go_cut [8, 9] (fun s1 s2 wx => ∃ (g c0 : Nat) (A0 : Option Addr), s1 = .pointer (some ⟨g, 0, none⟩) ∧ s2 = .bool Z.2.2.2 ∧ RQ w2 wx g Z.1 Z.2.1 A0 Z.2.2.1 c0)
  case first =>
    go_region_held3 (fun w' => Below w2.heap.size w2 w' ∧ w2.heap.size ≤ w'.heap.size ∧ ∀ b o, b < w2.heap.size → w'.cell? ⟨b, o, none⟩ = w2.cell? ⟨b, o, none⟩)
      (first | assumption | exact keepS (by assumption) (by assumption) | exact putS3 (by assumption) (And.left (And.right (by assumption))) | exact putS3 (by assumption) (Nat.le_refl _) | exact ⟨(Below.refl _ _).drew, Nat.le_refl _, fun _ _ _ => rfl⟩ | exact keepS (by assumption) ((Below.refl _ _).alloc (Nat.le_refl _) _))
      (first
        | (go_at_call 17; first | ((with_reducible refine (C1 _ (by assumption)).mono ?_); rintro e wN ⟨gN, rfl, hbN, oN⟩; have hSN := keepS (by assumption) hbN; have sN := hbN.size; (try simp at sN)) | ((with_reducible refine (C2 _ (by assumption)).mono ?_); rintro e wW ⟨gW, rfl, hbW, oW⟩; have hSW := keepS (by assumption) hbW; have sW := hbW.size; (try simp at sW); first | (have oN := own_keep oN hbW) | (have oN := own_keep (own_keep oN ((Below.refl _ _).alloc (Nat.le_refl _) _)) hbW) | skip))
        | (go_at_call 25; refine (specReplace_any W H _ _ _ L k0 V G _ _ _ M _ rfl rfl (Nat.le_refl _) (Nat.le_refl _) (by first | exact sqs_of_own oN | exact sqs_of_own (own_keep oN ((Below.refl _ _).alloc (Nat.le_refl _) _))) (by first | exact sqs_of_own oW | exact sqs_of_own (own_keep oW ((Below.refl _ _).alloc (Nat.le_refl _) _)))).mono ?_; rintro e wE hret; rw [HZ.out] at hret; obtain ⟨A0, c0, rfl, oE, hbS⟩ := hret; have hSE := keepS (by assumption) hbS; (try have z0 := box0 (by (first | exact hbS | exact nx hbW hbS | exact nx (unD hbW) hbS | exact nx hbN hbS | exact nx (nx hbN hbW) hbS | exact nx (nx hbW hbN) hbS | exact nx (nx (unD hbN) hbW) hbS | exact nx (nx (unD hbW) hbN) hbS))); (try have z1 := box1 (by (first | exact hbS | exact nx hbW hbS | exact nx (unD hbW) hbS | exact nx hbN hbS | exact nx (nx hbN hbW) hbS | exact nx (nx hbW hbN) hbS | exact nx (nx (unD hbN) hbW) hbS | exact nx (nx (unD hbW) hbN) hbS))); (try have z2 := box2 (by (first | exact hbS | exact nx hbW hbS | exact nx (unD hbW) hbS | exact nx hbN hbS | exact nx (nx hbN hbW) hbS | exact nx (nx hbW hbN) hbS | exact nx (nx (unD hbN) hbW) hbS | exact nx (nx (unD hbW) hbN) hbS))); (try have f0 := boxf (by (first | exact hbS | exact nx hbW hbS | exact nx (unD hbW) hbS | exact nx hbN hbS | exact nx (nx hbN hbW) hbS | exact nx (nx hbW hbN) hbS | exact nx (nx (unD hbN) hbW) hbS | exact nx (nx (unD hbW) hbN) hbS)) 0); (try have f1 := boxf (by (first | exact hbS | exact nx hbW hbS | exact nx (unD hbW) hbS | exact nx hbN hbS | exact nx (nx hbN hbW) hbS | exact nx (nx hbW hbN) hbS | exact nx (nx (unD hbN) hbW) hbS | exact nx (nx (unD hbW) hbN) hbS)) 1); (try have f2 := boxf (by (first | exact hbS | exact nx hbW hbS | exact nx (unD hbW) hbS | exact nx hbN hbS | exact nx (nx hbN hbW) hbS | exact nx (nx hbW hbN) hbS | exact nx (nx (unD hbN) hbW) hbS | exact nx (nx (unD hbW) hbN) hbS)) 2)))
    all_goals (go_wp2_with fail; go_meet)
    all_goals
      refine ⟨_, c0, A0, rfl, rfl, ?_⟩
      first
        | exact RQ.late (belowS (Wc := w2) (by assumption)) (szS (Wc := w2) (by assumption)) oE (by first | omega | (simp; done) | (simp; omega))
        | exact RQ.early (szS (Wc := w2) (by assumption)) (belowS (Wc := w2) (by assumption)) (by (first | exact hbS | exact nx hbW hbS | exact nx (unD hbW) hbS | exact nx hbN hbS | exact nx (nx hbN hbW) hbS | exact nx (nx hbW hbN) hbS | exact nx (nx (unD hbN) hbW) hbS | exact nx (nx (unD hbW) hbN) hbS)) oE (by first | omega | (simp; done) | (simp; omega))
        | exact RQ.early (Nat.le_refl _) (belowS (Wc := w2) (by assumption)) (by (first | exact hbS | exact nx hbW hbS | exact nx (unD hbW) hbS | exact nx hbN hbS | exact nx (nx hbN hbW) hbS | exact nx (nx hbW hbN) hbS | exact nx (nx (unD hbN) hbW) hbS | exact nx (nx (unD hbW) hbN) hbS)) oE (by first | omega | (simp; done) | (simp; omega))
  clear ul u0 u1 u2 vl v0 v1 v2
  clear hLc hMc C1 C2
  obtain ⟨g0, c0, A0, rfl, rfl, hRQ⟩ := hcut
  obtain ⟨w3, hw3⟩ : ∃ w3, w3 = wc := ⟨_, rfl⟩
  rw [← hw3] at hRQ ⊢
  clear hw3
  have hb := hRQ.bel
  have hs_3 := hb.size
  replace HB := HB.trans (hb.mono HB.size)
  replace ba := ba.next hb
  replace bb := bb.next hb
  clear hb
  have o0 := hRQ.own
  have bw := hRQ.box
  have hg0 := hRQ.g0
  have hg0' := bw.lt
  have hk0 := own_in o0
  clear hRQ
  obtain ⟨ul, u0, u1, u2⟩ := id ba
  go_wp2_with fail
  clear ul u0 u1 u2
  refine (toCut_any W H A L.length c L w3 rfl hc (by omega) ((hL.below HB).mono HB.size)).mono ?_
  rintro e w4 ⟨gx, rfl, hb, ox⟩
  have hgx := own_lt ox
  have hkx := own_in ox
  have hs_4 := hb.size
  replace HB := HB.trans (hb.mono HB.size)
  replace ba := ba.next hb
  replace bb := bb.next hb
  replace bw := bw.next hb
  replace o0 := own_keep o0 hb
  clear hb
  obtain ⟨vl, v0, v1, v2⟩ := id bb
  go_wp2_with fail
  clear vl v0 v1 v2
  obtain ⟨W5, hW⟩ : ∃ W5, W5 = w4.alloc (.cells #[.int .i64 W, .int .i64 H, .slice (some ⟨gx, 0, none⟩) L.length L.length] 29) := ⟨_, rfl⟩
  have hb : Below w4.heap.size w4 W5 := by rw [hW]; exact (Below.refl _ _).alloc (Nat.le_refl _) _
  have bx : Bx w4.heap.size W5 W H (some ⟨gx, 0, none⟩) L.length L.length := by rw [hW]; exact Bx.start _ _ _ _ _ _ _
  have hl_bx := bx.lt
  rw [← hW]
  clear hW
  have hs_5 := hb.size
  replace HB := HB.trans (hb.mono HB.size)
  replace ba := ba.next hb
  replace bb := bb.next hb
  replace bw := bw.next hb
  replace o0 := own_keep o0 hb
  replace ox := own_keep ox hb
  clear hb
  refine (toCut_any V G A' M.length c' M W5 rfl hc' (by omega) ((hM.below HB).mono HB.size)).mono ?_
  rintro e w6 ⟨gy, rfl, hb, oy⟩
  have hgy := own_lt oy
  have hky := own_in oy
  have hs_6 := hb.size
  replace HB := HB.trans (hb.mono HB.size)
  replace ba := ba.next hb
  replace bb := bb.next hb
  replace bw := bw.next hb
  replace bx := bx.next hb
  replace o0 := own_keep o0 hb
  replace ox := own_keep ox hb
  clear hb
  obtain ⟨xl, x0, x1, x2⟩ := id bx
  go_wp2_with fail
  clear xl x0 x1 x2
  obtain ⟨W7, hW⟩ : ∃ W7, W7 = w6.alloc (.cells #[.int .i64 V, .int .i64 G, .slice (some ⟨gy, 0, none⟩) M.length M.length] 29) := ⟨_, rfl⟩
  have hb : Below w6.heap.size w6 W7 := by rw [hW]; exact (Below.refl _ _).alloc (Nat.le_refl _) _
  have by_ : Bx w6.heap.size W7 V G (some ⟨gy, 0, none⟩) M.length M.length := by rw [hW]; exact Bx.start _ _ _ _ _ _ _
  have hl_by_ := by_.lt
  rw [← hW]
  clear hW
  have hs_7 := hb.size
  replace HB := HB.trans (hb.mono HB.size)
  replace ba := ba.next hb
  replace bb := bb.next hb
  replace bw := bw.next hb
  replace bx := bx.next hb
  replace o0 := own_keep o0 hb
  replace ox := own_keep ox hb
  replace oy := own_keep oy hb
  clear hb
  refine (implReplace_any W H _ _ _ L k0 V G _ _ _ M _ rfl rfl (Nat.le_refl _) (Nat.le_refl _) (sqs_of_own ox) (sqs_of_own oy) hwf hwf').mono ?_
  rintro e w8 hret
  rw [HZ.out] at hret
  obtain ⟨Ag, cg, rfl, og, hb⟩ := hret
  have hkg := own_in og
  have hs_8 := hb.size
  replace HB := HB.trans (hb.mono HB.size)
  replace ba := ba.next hb
  replace bb := bb.next hb
  replace bw := bw.next hb
  replace bx := bx.next hb
  replace by_ := by_.next hb
  replace o0 := own_keep o0 hb
  replace ox := own_keep ox hb
  replace oy := own_keep oy hb
  clear hb
  obtain ⟨pl, p0, p1, p2⟩ := id bw
  go_wp2_with fail
  clear pl p0 p1 p2
  obtain ⟨W9, hW⟩ : ∃ W9, W9 = w8.alloc (.cells #[.int .i64 Z.1, .int .i64 Z.2.1, .slice Ag Z.2.2.1.length cg] 29) := ⟨_, rfl⟩
  have hb : Below w8.heap.size w8 W9 := by rw [hW]; exact (Below.refl _ _).alloc (Nat.le_refl _) _
  have bg : Bx w8.heap.size W9 Z.1 Z.2.1 Ag Z.2.2.1.length cg := by rw [hW]; exact Bx.start _ _ _ _ _ _ _
  have hl_bg := bg.lt
  rw [← hW]
  clear hW
  have hs_9 := hb.size
  replace HB := HB.trans (hb.mono HB.size)
  replace ba := ba.next hb
  replace bb := bb.next hb
  replace bw := bw.next hb
  replace bx := bx.next hb
  replace by_ := by_.next hb
  replace o0 := own_keep o0 hb
  replace ox := own_keep ox hb
  replace oy := own_keep oy hb
  replace og := own_keep og hb
  clear hb
  refine (eqCut_same Z.1 Z.2.1 Ag A0 Z.2.2.1.length cg c0 Z.2.2.1 _ rfl hRn (own_cap og) (own_cap o0) (sqs_of_own og) (sqs_of_own o0)).mono ?_
  rintro e w10 ⟨rfl, hb⟩
  have hs_10 := hb.size
  replace HB := HB.trans (hb.mono HB.size)
  replace ba := ba.next hb
  replace bb := bb.next hb
  replace bw := bw.next hb
  replace bx := bx.next hb
  replace by_ := by_.next hb
  replace bg := bg.next hb
  replace o0 := own_keep o0 hb
  replace ox := own_keep ox hb
  replace oy := own_keep oy hb
  replace og := own_keep og hb
  clear hb
  obtain ⟨xl, x0, x1, x2⟩ := id bx
  obtain ⟨ul, u0, u1, u2⟩ := id ba
  have hX := sqs_of_own ox
  have hT := (hL.below HB).mono HB.size
  go_wp2_with fail
  go_region_held3 (fun w' => Below w10.heap.size w10 w' ∧ w10.heap.size ≤ w'.heap.size ∧ ∀ b o, b < w10.heap.size → w'.cell? ⟨b, o, none⟩ = w10.cell? ⟨b, o, none⟩)
    (first | exact keepS (by assumption) (by assumption) | exact ⟨(Below.refl _ _).drew, Nat.le_refl _, fun _ _ _ => rfl⟩)
    (first
      | (go_at_call 17; refine (toCut_any W H A L.length c L _ rfl hc (by omega) (sqsS hT (by assumption))).mono ?_; rintro e wt ⟨gt, rfl, hbt, hot⟩)
      | (go_at_call 20; refine (eqCut_same W H _ _ _ _ _ L _ rfl (by omega) (Nat.le_refl _) (Nat.le_refl _) (sqsS hX (by assumption)) (sqs_of_own (by assumption))).mono ?_; rintro e w11 ⟨rfl, hbe⟩))
  have hb := belowS (B := w10.heap.size) (wp := w11) (by assumption)
  clear xl x0 x1 x2 ul u0 u1 u2
  clear hX hT
  have hs_11 := hb.size
  replace HB := HB.trans (hb.mono HB.size)
  replace ba := ba.next hb
  replace bb := bb.next hb
  replace bw := bw.next hb
  replace bx := bx.next hb
  replace by_ := by_.next hb
  replace bg := bg.next hb
  replace o0 := own_keep o0 hb
  replace ox := own_keep ox hb
  replace oy := own_keep oy hb
  replace og := own_keep og hb
  clear hb
  obtain ⟨xl, x0, x1, x2⟩ := id by_
  obtain ⟨ul, u0, u1, u2⟩ := id bb
  have hX := sqs_of_own oy
  have hT := (hM.below HB).mono HB.size
  go_wp2_with fail
  go_region_held3 (fun w' => Below w11.heap.size w11 w' ∧ w11.heap.size ≤ w'.heap.size ∧ ∀ b o, b < w11.heap.size → w'.cell? ⟨b, o, none⟩ = w11.cell? ⟨b, o, none⟩)
    (first | exact keepS (by assumption) (by assumption) | exact ⟨(Below.refl _ _).drew, Nat.le_refl _, fun _ _ _ => rfl⟩)
    (first
      | (go_at_call 17; refine (toCut_any V G A' M.length c' M _ rfl hc' (by omega) (sqsS hT (by assumption))).mono ?_; rintro e wt ⟨gt, rfl, hbt, hot⟩)
      | (go_at_call 20; refine (eqCut_same V G _ _ _ _ _ M _ rfl (by omega) (Nat.le_refl _) (Nat.le_refl _) (sqsS hX (by assumption)) (sqs_of_own (by assumption))).mono ?_; rintro e w12 ⟨rfl, hbe⟩))
  have hb := belowS (B := w11.heap.size) (wp := w12) (by assumption)
  clear xl x0 x1 x2 ul u0 u1 u2
  clear hX hT
  have hs_12 := hb.size
  replace HB := HB.trans (hb.mono HB.size)
  replace ba := ba.next hb
  replace bb := bb.next hb
  replace bw := bw.next hb
  replace bx := bx.next hb
  replace by_ := by_.next hb
  replace bg := bg.next hb
  replace o0 := own_keep o0 hb
  replace ox := own_keep ox hb
  replace oy := own_keep oy hb
  replace og := own_keep og hb
  clear hb
  obtain ⟨xl, x0, x1, x2⟩ := id bx
  go_wp2_with fail
  clear xl x0 x1 x2
  refine (markCut_any W H _ _ _ _ _ 1 _ (by omega) (by decide) (by decide) ox).mono ?_
  rintro e w13 ⟨rfl, hox, hgr⟩
  have hs_13 := hgr.size
  have hz_13 := HB.size
  replace HB := HB.grown hgr HB.size (fun k he => by simp [Value.ownBlock] at he; omega)
  replace ba := ba.far hgr (fun he => by simp [Value.ownBlock] at he; omega)
  replace bb := bb.far hgr (fun he => by simp [Value.ownBlock] at he; omega)
  replace bw := bw.far hgr (fun he => by simp [Value.ownBlock] at he; omega)
  replace bx := bx.far hgr (fun he => by simp [Value.ownBlock] at he; omega)
  replace by_ := by_.far hgr (fun he => by simp [Value.ownBlock] at he; omega)
  replace bg := bg.far hgr (fun he => by simp [Value.ownBlock] at he; omega)
  replace o0 := own_far o0 hgr (fun k hk he => by have := hk0.out k hk; simp [Value.ownBlock] at he; omega)
  replace oy := own_far oy hgr (fun k hk he => by have := hky.out k hk; simp [Value.ownBlock] at he; omega)
  replace og := own_far og hgr (fun k hk he => by have := hkg.out k hk; simp [Value.ownBlock] at he; omega)
  clear hgr
  replace ox := hox
  obtain ⟨yl, y0, y1, y2⟩ := id by_
  go_wp2_with fail
  clear yl y0 y1 y2
  refine (markCut_any V G _ _ _ _ _ (1 + 3 * (L.length : Int)) _ (by omega) (by omega) (by omega) oy).mono ?_
  rintro e w14 ⟨rfl, hoy, hgr⟩
  have hs_14 := hgr.size
  have hz_14 := HB.size
  replace HB := HB.grown hgr HB.size (fun k he => by simp [Value.ownBlock] at he; omega)
  replace ba := ba.far hgr (fun he => by simp [Value.ownBlock] at he; omega)
  replace bb := bb.far hgr (fun he => by simp [Value.ownBlock] at he; omega)
  replace bw := bw.far hgr (fun he => by simp [Value.ownBlock] at he; omega)
  replace bx := bx.far hgr (fun he => by simp [Value.ownBlock] at he; omega)
  replace by_ := by_.far hgr (fun he => by simp [Value.ownBlock] at he; omega)
  replace bg := bg.far hgr (fun he => by simp [Value.ownBlock] at he; omega)
  replace o0 := own_far o0 hgr (fun k hk he => by have := hk0.out k hk; simp [Value.ownBlock] at he; omega)
  replace ox := own_far ox hgr (fun k hk he => by have := hkx.out k hk; simp [Value.ownBlock] at he; omega)
  replace og := own_far og hgr (fun k hk he => by have := hkg.out k hk; simp [Value.ownBlock] at he; omega)
  clear hgr
  replace oy := hoy
  have h2 : ¬ (1 : Int) + 3 * L.length + 3 * M.length < 0 := by omega
  clear ox oy hox hoy bx by_
  obtain ⟨pl, p0, p1, p2⟩ := id bw
  obtain ⟨ql, q0, q1, q2⟩ := id bg
  go_wp2_with fail
  clear pl p0 p1 p2 ql q0 q1 q2
  refine (eqCut_same Z.1 Z.2.1 Ag A0 Z.2.2.1.length cg c0 Z.2.2.1 _ rfl hRn (own_cap og) (own_cap o0) (sqs_of_own og) (sqs_of_own o0)).mono ?_
  rintro e w15 ⟨rfl, hb⟩
  have hs_15 := hb.size
  replace HB := HB.trans (hb.mono HB.size)
  replace ba := ba.next hb
  replace bb := bb.next hb
  replace bw := bw.next hb
  replace bg := bg.next hb
  replace o0 := own_keep o0 hb
  replace og := own_keep og hb
  clear hb
  obtain ⟨ql, q0, q1, q2⟩ := id bg
  go_wp2_with fail
  clear ql q0 q1 q2
  refine (markCut_any Z.1 Z.2.1 Ag Z.2.2.1.length cg _ _ 1 _ hRn (by decide) (by decide) og).mono ?_
  rintro e w16 ⟨rfl, hog, hgr⟩
  have hs_16 := hgr.size
  have hz_16 := HB.size
  replace HB := HB.grown hgr HB.size (fun k he => by have := hkg.out _ he; omega)
  replace ba := ba.far hgr (fun he => by have := hkg.out _ he; omega)
  replace bb := bb.far hgr (fun he => by have := hkg.out _ he; omega)
  replace bw := bw.far hgr (fun he => by have := hkg.out _ he; omega)
  replace bg := bg.far hgr (fun he => by have := hkg.out _ he; omega)
  replace o0 := own_far o0 hgr (fun k hk he => by have := hk0.out k hk; have := hkg.out _ he; omega)
  clear hgr
  replace og := hog
  clear hog
  have h3 : ¬ (1 : Int) + 3 * Z.2.2.1.length < 0 := by omega
  obtain ⟨ql, q0, q1, q2⟩ := id bg
  go_wp2_with fail
  clear ql q0 q1 q2
  refine (heldCut_any Z.1 Z.2.1 Ag Z.2.2.1.length cg 1 _ hRn (by decide) (by decide) (sqs_of_own og)).mono ?_
  rintro e w17 ⟨rfl, hb⟩
  have hs_17 := hb.size
  replace HB := HB.trans (hb.mono HB.size)
  replace ba := ba.next hb
  replace bb := bb.next hb
  replace bw := bw.next hb
  replace bg := bg.next hb
  replace o0 := own_keep o0 hb
  replace og := own_keep og hb
  clear hb
  obtain ⟨ul, u0, u1, u2⟩ := id ba
  obtain ⟨vl, v0, v1, v2⟩ := id bb
  have hLc : ∀ w' : World, Below w17.heap.size w17 w' → SqsAt w' w'.heap.size A L := fun w' hb => (hL.below (HB.trans (hb.mono HB.size))).mono (Nat.le_trans HB.size hb.size)
  have hMc : ∀ w' : World, Below w17.heap.size w17 w' → SqsAt w' w'.heap.size A' M := fun w' hb => (hM.below (HB.trans (hb.mono HB.size))).mono (Nat.le_trans HB.size hb.size)
  have C1 : ∀ w' : World, (Below w17.heap.size w17 w' ∧ w17.heap.size ≤ w'.heap.size ∧ ∀ b o, b < w17.heap.size → w'.cell? ⟨b, o, none⟩ = w17.cell? ⟨b, o, none⟩) → Calls Try.prog 17 #[.agg #[.int .i64 W, .int .i64 H, .slice A L.length c]] w' fun e w'' => OwnCut w' w'' W H L e := fun w' hS => toCut_any W H A L.length c L w' rfl hc (by omega) (hLc w' hS.1)
  have C2 : ∀ w' : World, (Below w17.heap.size w17 w' ∧ w17.heap.size ≤ w'.heap.size ∧ ∀ b o, b < w17.heap.size → w'.cell? ⟨b, o, none⟩ = w17.cell? ⟨b, o, none⟩) → Calls Try.prog 17 #[.agg #[.int .i64 V, .int .i64 G, .slice A' M.length c']] w' fun e w'' => OwnCut w' w'' V G M e := fun w' hS => toCut_any V G A' M.length c' M w' rfl hc' (by omega) (hMc w' hS.1)
  go_upto_region 32 with fail
  go_cut [17, 18] (fun s1 s2 wx => ∃ (g c0 : Nat) (A0 : Option Addr), s1 = .pointer (some ⟨g, 0, none⟩) ∧ s2 = .bool Z.2.2.2 ∧ RQ w17 wx g Z.1 Z.2.1 A0 Z.2.2.1 c0)
  case first =>
    go_region_held3 (fun w' => Below w17.heap.size w17 w' ∧ w17.heap.size ≤ w'.heap.size ∧ ∀ b o, b < w17.heap.size → w'.cell? ⟨b, o, none⟩ = w17.cell? ⟨b, o, none⟩)
      (first | assumption | exact keepS (by assumption) (by assumption) | exact putS3 (by assumption) (And.left (And.right (by assumption))) | exact putS3 (by assumption) (Nat.le_refl _) | exact ⟨(Below.refl _ _).drew, Nat.le_refl _, fun _ _ _ => rfl⟩ | exact keepS (by assumption) ((Below.refl _ _).alloc (Nat.le_refl _) _))
      (first
        | (go_at_call 17; first | ((with_reducible refine (C1 _ (by assumption)).mono ?_); rintro e wN ⟨gN, rfl, hbN, oN⟩; have hSN := keepS (by assumption) hbN; have sN := hbN.size; (try simp at sN)) | ((with_reducible refine (C2 _ (by assumption)).mono ?_); rintro e wW ⟨gW, rfl, hbW, oW⟩; have hSW := keepS (by assumption) hbW; have sW := hbW.size; (try simp at sW); first | (have oN := own_keep oN hbW) | (have oN := own_keep (own_keep oN ((Below.refl _ _).alloc (Nat.le_refl _) _)) hbW) | skip))
        | (go_at_call 26; refine (implReplace_any W H _ _ _ L k0 V G _ _ _ M _ rfl rfl (Nat.le_refl _) (Nat.le_refl _) (by first | exact sqs_of_own oN | exact sqs_of_own (own_keep oN ((Below.refl _ _).alloc (Nat.le_refl _) _))) (by first | exact sqs_of_own oW | exact sqs_of_own (own_keep oW ((Below.refl _ _).alloc (Nat.le_refl _) _))) hwf hwf').mono ?_; rintro e wE hret; rw [HZ.out] at hret; obtain ⟨A0, c0, rfl, oE, hbS⟩ := hret; have hSE := keepS (by assumption) hbS; (try have z0 := box0 (by (first | exact hbS | exact nx hbW hbS | exact nx (unD hbW) hbS | exact nx hbN hbS | exact nx (nx hbN hbW) hbS | exact nx (nx hbW hbN) hbS | exact nx (nx (unD hbN) hbW) hbS | exact nx (nx (unD hbW) hbN) hbS))); (try have z1 := box1 (by (first | exact hbS | exact nx hbW hbS | exact nx (unD hbW) hbS | exact nx hbN hbS | exact nx (nx hbN hbW) hbS | exact nx (nx hbW hbN) hbS | exact nx (nx (unD hbN) hbW) hbS | exact nx (nx (unD hbW) hbN) hbS))); (try have z2 := box2 (by (first | exact hbS | exact nx hbW hbS | exact nx (unD hbW) hbS | exact nx hbN hbS | exact nx (nx hbN hbW) hbS | exact nx (nx hbW hbN) hbS | exact nx (nx (unD hbN) hbW) hbS | exact nx (nx (unD hbW) hbN) hbS))); (try have f0 := boxf (by (first | exact hbS | exact nx hbW hbS | exact nx (unD hbW) hbS | exact nx hbN hbS | exact nx (nx hbN hbW) hbS | exact nx (nx hbW hbN) hbS | exact nx (nx (unD hbN) hbW) hbS | exact nx (nx (unD hbW) hbN) hbS)) 0); (try have f1 := boxf (by (first | exact hbS | exact nx hbW hbS | exact nx (unD hbW) hbS | exact nx hbN hbS | exact nx (nx hbN hbW) hbS | exact nx (nx hbW hbN) hbS | exact nx (nx (unD hbN) hbW) hbS | exact nx (nx (unD hbW) hbN) hbS)) 1); (try have f2 := boxf (by (first | exact hbS | exact nx hbW hbS | exact nx (unD hbW) hbS | exact nx hbN hbS | exact nx (nx hbN hbW) hbS | exact nx (nx hbW hbN) hbS | exact nx (nx (unD hbN) hbW) hbS | exact nx (nx (unD hbW) hbN) hbS)) 2)))
    all_goals (go_wp2_with fail; go_meet)
    all_goals
      refine ⟨_, c0, A0, rfl, rfl, ?_⟩
      first
        | exact RQ.late (belowS (Wc := w17) (by assumption)) (szS (Wc := w17) (by assumption)) oE (by first | omega | (simp; done) | (simp; omega))
        | exact RQ.early (szS (Wc := w17) (by assumption)) (belowS (Wc := w17) (by assumption)) (by (first | exact hbS | exact nx hbW hbS | exact nx (unD hbW) hbS | exact nx hbN hbS | exact nx (nx hbN hbW) hbS | exact nx (nx hbW hbN) hbS | exact nx (nx (unD hbN) hbW) hbS | exact nx (nx (unD hbW) hbN) hbS)) oE (by first | omega | (simp; done) | (simp; omega))
        | exact RQ.early (Nat.le_refl _) (belowS (Wc := w17) (by assumption)) (by (first | exact hbS | exact nx hbW hbS | exact nx (unD hbW) hbS | exact nx hbN hbS | exact nx (nx hbN hbW) hbS | exact nx (nx hbW hbN) hbS | exact nx (nx (unD hbN) hbW) hbS | exact nx (nx (unD hbW) hbN) hbS)) oE (by first | omega | (simp; done) | (simp; omega))
  clear ul u0 u1 u2 vl v0 v1 v2
  clear hLc hMc C1 C2
  obtain ⟨g7, c7, A7, rfl, rfl, hRQ⟩ := hcut
  obtain ⟨w18, hw3⟩ : ∃ w3, w3 = wc := ⟨_, rfl⟩
  rw [← hw3] at hRQ ⊢
  clear hw3
  have hb := hRQ.bel
  have hs_18 := hb.size
  replace HB := HB.trans (hb.mono HB.size)
  replace ba := ba.next hb
  replace bb := bb.next hb
  replace bw := bw.next hb
  replace bg := bg.next hb
  replace o0 := own_keep o0 hb
  replace og := own_keep og hb
  clear hb
  have oh := hRQ.own
  have bh := hRQ.box
  clear hRQ
  obtain ⟨pl, p0, p1, p2⟩ := id bw
  obtain ⟨rl, r0, r1, r2⟩ := id bh
  go_wp2_with fail
  clear pl p0 p1 p2 rl r0 r1 r2
  refine (eqCut_same Z.1 Z.2.1 A7 A0 Z.2.2.1.length c7 c0 Z.2.2.1 _ rfl hRn (own_cap oh) (own_cap o0) (sqs_of_own oh) (sqs_of_own o0)).mono ?_
  rintro e w19 ⟨rfl, hb⟩
  have hs_19 := hb.size
  replace HB := HB.trans (hb.mono HB.size)
  replace ba := ba.next hb
  replace bb := bb.next hb
  replace bw := bw.next hb
  replace bg := bg.next hb
  replace bh := bh.next hb
  replace o0 := own_keep o0 hb
  replace og := own_keep og hb
  replace oh := own_keep oh hb
  clear hb
  obtain ⟨ql, q0, q1, q2⟩ := id bg
  go_wp2_with fail
  clear ql q0 q1 q2
  refine (heldCut_any Z.1 Z.2.1 Ag Z.2.2.1.length cg 1 _ hRn (by decide) (by decide) (sqs_of_own og)).mono ?_
  rintro e w20 ⟨rfl, hb⟩
  have hs_20 := hb.size
  replace HB := HB.trans (hb.mono HB.size)
  replace ba := ba.next hb
  replace bb := bb.next hb
  replace bw := bw.next hb
  replace bg := bg.next hb
  replace bh := bh.next hb
  replace o0 := own_keep o0 hb
  replace og := own_keep og hb
  replace oh := own_keep oh hb
  clear hb
  go_wp2_with fail
  go_ret
  exact ⟨rfl, HB⟩
theorem lawReplaceSquare_over1 (W H : Int) (A : Option Addr) (n c : Nat) (L : List Sq) (k0 : Int) (V G : Int) (A' : Option Addr) (n' c' : Nat) (M : List Sq) (w : World) (h : 1048576 < n) (hn : n ≤ 9223372036854775807) :
    Calls Try.prog 4 #[.agg #[.int .i64 W, .int .i64 H, .slice A n c], .int .i64 k0, .agg #[.int .i64 V, .int .i64 G, .slice A' n' c']] w fun e w' => e = .returned (.bool true) ∧ Below w.heap.size w w' := by
  have HB : Below w.heap.size w ((w.alloc (.cells #[.int .i64 W, .int .i64 H, .slice A n c] 24)).alloc (.cells #[.int .i64 V, .int .i64 G, .slice A' n' c'] 24)) := ((Below.refl _ _).alloc (Nat.le_refl _) _).alloc (by simp) _
  go_enter Try.func4, Try.ntmps4
  go_wp2_with fail
  refine (szCutL_over W H A n c 1048576 _ (by decide) (by decide) (by omega) hn).mono ?_
  rintro e w1 ⟨rfl, hb⟩
  go_wp2_with fail
  go_ret
  exact ⟨rfl, HB.trans (hb.mono HB.size)⟩
theorem lawReplaceSquare_over2 (W H : Int) (A : Option Addr) (n c : Nat) (L : List Sq) (k0 : Int) (V G : Int) (A' : Option Addr) (n' c' : Nat) (M : List Sq) (w : World) (h : n ≤ 1048576) (h2 : 1048576 < n + n') (hn : n' ≤ 9223372036854775807) :
    Calls Try.prog 4 #[.agg #[.int .i64 W, .int .i64 H, .slice A n c], .int .i64 k0, .agg #[.int .i64 V, .int .i64 G, .slice A' n' c']] w fun e w' => e = .returned (.bool true) ∧ Below w.heap.size w w' := by
  have HB : Below w.heap.size w ((w.alloc (.cells #[.int .i64 W, .int .i64 H, .slice A n c] 24)).alloc (.cells #[.int .i64 V, .int .i64 G, .slice A' n' c'] 24)) := ((Below.refl _ _).alloc (Nat.le_refl _) _).alloc (by simp) _
  have bb : Bx (w.heap.size + 1) ((w.alloc (.cells #[.int .i64 W, .int .i64 H, .slice A n c] 24)).alloc (.cells #[.int .i64 V, .int .i64 G, .slice A' n' c'] 24)) V G A' n' c' := by simpa using Bx.start (w.alloc (.cells #[.int .i64 W, .int .i64 H, .slice A n c] 24)) V G A' n' c' 24
  go_enter Try.func4, Try.ntmps4
  go_wp2_with fail
  refine (szCutL_ok W H A n c 1048576 _ (by decide) (by omega)).mono ?_
  rintro e w1 ⟨rfl, hb⟩
  have h' : ¬ (1048576 : Int) - n < 0 := by omega
  obtain ⟨_, v0, v1, v2⟩ := bb.next hb
  have HB := HB.trans (hb.mono HB.size)
  clear bb hb
  go_wp2_with fail
  refine (szCutL_over V G A' n' c' (1048576 - n) w1 (by omega) (by omega) (by omega) hn).mono ?_
  rintro e w2 ⟨rfl, hb⟩
  clear v0 v1 v2
  go_wp2_with fail
  go_ret
  exact ⟨rfl, HB.trans (hb.mono HB.size)⟩
end Go.Proofs.Ytilneimiedfjnaa
