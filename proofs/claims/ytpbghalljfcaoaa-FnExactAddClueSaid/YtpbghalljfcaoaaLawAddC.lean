/- The walk of FnExactAddClue. -/
import Derived.Test.YtpbghalljfcaoaaPzRq
import Derived.Deep.DeepCutAuto
set_option linter.all false
namespace Go.Proofs.Ytpbghalljfcaoaa
open Go.RowKit

set_option maxRecDepth 100000 in
set_option maxHeartbeats 16000000 in
theorem lawAddClue (W H : Int) (A : Option Addr) (n c : Nat) (L : List Sq) (s : Sq) (w : World) (hl : L.length = n) (hc : n ≤ c) (hn : n ≤ 1048576) (hL : SqsAt w w.heap.size A L) (hwf : ∀ s ∈ L, wfS s) :
    Calls Try.prog 7 #[.agg #[.int .i64 W, .int .i64 H, .slice A n c], .agg #[.int .i64 s.x, .int .i64 s.y, .int .i64 s.d]] w fun e w' => e = .returned (.bool true) ∧ Below w.heap.size w w' := by
  subst hl
  obtain ⟨Z, hZ⟩ : ∃ Z, acV W H L s = Z := ⟨_, rfl⟩
  have hRn : Z.2.2.1.length ≤ 1048576 := by rw [← hZ]; exact Nat.le_trans (acV_len W H L s) (by decide)
  have HZ := Lib.hid hZ
  clear hZ
  have h1 : (Z.2.2.2 != Z.2.2.2) = false := by simp
  have ba := (Bx.start w W H A L.length c 30).next ((Below.refl _ _).alloc (Nat.le_refl _) (.cells #[.int .i64 s.x, .int .i64 s.y, .int .i64 s.d] 23))
  have vc := Cv3.start (w.alloc (.cells #[.int .i64 W, .int .i64 H, .slice A L.length c] 30)) (.int .i64 s.x) (.int .i64 s.y) (.int .i64 s.d) 23
  rw [World.size_alloc] at vc
  have HB : Below w.heap.size w ((w.alloc (.cells #[.int .i64 W, .int .i64 H, .slice A L.length c] 30)).alloc (.cells #[.int .i64 s.x, .int .i64 s.y, .int .i64 s.d] 23)) := ((Below.refl _ _).alloc (Nat.le_refl _) _).alloc (by simp) _
  go_enter Try.func7, Try.ntmps7
  go_wp2_with fail
  obtain ⟨W1, hW1⟩ : ∃ W1, W1 = ((w.alloc (.cells #[.int .i64 W, .int .i64 H, .slice A L.length c] 30)).alloc (.cells #[.int .i64 s.x, .int .i64 s.y, .int .i64 s.d] 23)) := ⟨_, rfl⟩
  have hs_0 : w.heap.size + 2 = W1.heap.size := by rw [hW1]; simp
  rw [← hW1] at ba vc HB ⊢
  clear hW1
  refine (szPuzzleL_ok W H A L.length c 1048576 W1 (by decide) (by omega)).mono ?_
  rintro e w1 ⟨rfl, hb⟩
  have hs_1 := hb.size
  replace HB := HB.trans (hb.mono HB.size)
  replace ba := ba.next hb
  replace vc := vc.next hb
  clear hb
  have h' : ¬ (1048576 : Int) - L.length < 0 := by omega
  obtain ⟨ul, u0, u1, u2⟩ := id ba
  obtain ⟨vl, v0, v1, v2⟩ := id vc
  have hT := (hL.below HB).mono HB.size
  go_upto_region 5 with fail
  go_cut [6, 7] (fun s1 s2 wx => ∃ (g c0 : Nat) (A0 : Option Addr), s1 = .pointer (some ⟨g, 0, none⟩) ∧ s2 = .bool Z.2.2.2 ∧ RQ w1 wx g Z.1 Z.2.1 A0 Z.2.2.1 c0)
  case first =>
    go_region_held3 (fun w' => Below w1.heap.size w1 w' ∧ w1.heap.size ≤ w'.heap.size ∧ ∀ b o, b < w1.heap.size → w'.cell? ⟨b, o, none⟩ = w1.cell? ⟨b, o, none⟩)
      (first | assumption | exact keepS (by assumption) (by assumption) | exact putS3 (by assumption) (And.left (And.right (by assumption))) | exact putS3 (by assumption) (Nat.le_refl _) | exact ⟨(Below.refl _ _).drew, Nat.le_refl _, fun _ _ _ => rfl⟩ | exact keepS (by assumption) ((Below.refl _ _).alloc (Nat.le_refl _) _))
      (first
        | (go_at_call 14; refine (toPuzzle_any W H A L.length c L _ rfl hc hn (sqsS hT (by assumption))).mono ?_; rintro e wN ⟨gN, rfl, hbN, oN⟩; have hSN := keepS (by assumption) hbN; have sN := hbN.size; (try simp at sN))
        | (go_at_call 10; refine (toClue_any s.x s.y s.d _).mono ?_; rintro e wW ⟨rfl, hbW⟩; have hSW := keepS (by assumption) hbW; have sW := hbW.size; (try simp at sW); first | (have oN := own_keep oN hbW) | (have oN := own_keep (own_keep oN ((Below.refl _ _).alloc (Nat.le_refl _) _)) hbW) | skip)
        | (go_at_call 26; refine (specAc_any W H _ _ _ L s _ rfl (Nat.le_refl _) hn (by simp) (by first | exact cls_of_own oN | exact cls_of_own (own_keep oN ((Below.refl _ _).alloc (Nat.le_refl _) _)))).mono ?_; rintro e wE hret; rw [HZ.out] at hret; obtain ⟨A0, c0, rfl, oE, hbS⟩ := hret; have hSE := keepS (by assumption) hbS; (try have z0 := box0 (by (first | exact hbS | exact nx hbW hbS | exact nx (unD hbW) hbS | exact nx hbN hbS | exact nx (nx hbN hbW) hbS | exact nx (nx hbW hbN) hbS | exact nx (nx (unD hbN) hbW) hbS | exact nx (nx (unD hbW) hbN) hbS))); (try have z1 := box1 (by (first | exact hbS | exact nx hbW hbS | exact nx (unD hbW) hbS | exact nx hbN hbS | exact nx (nx hbN hbW) hbS | exact nx (nx hbW hbN) hbS | exact nx (nx (unD hbN) hbW) hbS | exact nx (nx (unD hbW) hbN) hbS))); (try have z2 := box2 (by (first | exact hbS | exact nx hbW hbS | exact nx (unD hbW) hbS | exact nx hbN hbS | exact nx (nx hbN hbW) hbS | exact nx (nx hbW hbN) hbS | exact nx (nx (unD hbN) hbW) hbS | exact nx (nx (unD hbW) hbN) hbS))); (try have f0 := boxf (by (first | exact hbS | exact nx hbW hbS | exact nx (unD hbW) hbS | exact nx hbN hbS | exact nx (nx hbN hbW) hbS | exact nx (nx hbW hbN) hbS | exact nx (nx (unD hbN) hbW) hbS | exact nx (nx (unD hbW) hbN) hbS)) 0); (try have f1 := boxf (by (first | exact hbS | exact nx hbW hbS | exact nx (unD hbW) hbS | exact nx hbN hbS | exact nx (nx hbN hbW) hbS | exact nx (nx hbW hbN) hbS | exact nx (nx (unD hbN) hbW) hbS | exact nx (nx (unD hbW) hbN) hbS)) 1); (try have f2 := boxf (by (first | exact hbS | exact nx hbW hbS | exact nx (unD hbW) hbS | exact nx hbN hbS | exact nx (nx hbN hbW) hbS | exact nx (nx hbW hbN) hbS | exact nx (nx (unD hbN) hbW) hbS | exact nx (nx (unD hbW) hbN) hbS)) 2)))
    all_goals (go_wp2_with fail; go_meet)
    all_goals
      refine ⟨_, c0, A0, rfl, rfl, ?_⟩
      first
        | exact RQ.late (belowS (Wc := w1) (by assumption)) (szS (Wc := w1) (by assumption)) oE (by first | omega | (simp; done) | (simp; omega))
        | exact RQ.early (szS (Wc := w1) (by assumption)) (belowS (Wc := w1) (by assumption)) (by (first | exact hbS | exact nx hbW hbS | exact nx (unD hbW) hbS | exact nx hbN hbS | exact nx (nx hbN hbW) hbS | exact nx (nx hbW hbN) hbS | exact nx (nx (unD hbN) hbW) hbS | exact nx (nx (unD hbW) hbN) hbS)) oE (by first | omega | (simp; done) | (simp; omega))
        | exact RQ.early (Nat.le_refl _) (belowS (Wc := w1) (by assumption)) (by (first | exact hbS | exact nx hbW hbS | exact nx (unD hbW) hbS | exact nx hbN hbS | exact nx (nx hbN hbW) hbS | exact nx (nx hbW hbN) hbS | exact nx (nx (unD hbN) hbW) hbS | exact nx (nx (unD hbW) hbN) hbS)) oE (by first | omega | (simp; done) | (simp; omega))
  clear ul u0 u1 u2 vl v0 v1 v2
  clear hT
  obtain ⟨g0, c0, A0, rfl, rfl, hRQ⟩ := hcut
  obtain ⟨w3, hw3⟩ : ∃ w3, w3 = wc := ⟨_, rfl⟩
  rw [← hw3] at hRQ ⊢
  clear hw3
  have hb := hRQ.bel
  have hs_2 := hb.size
  replace HB := HB.trans (hb.mono HB.size)
  replace ba := ba.next hb
  replace vc := vc.next hb
  clear hb
  have o0 := hRQ.own
  have bw := hRQ.box
  have hg0 := hRQ.g0
  have hg0' := bw.lt
  have hk0 := own_in o0
  clear hRQ
  obtain ⟨ul, u0, u1, u2⟩ := id ba
  go_wp2_with fail
  clear ul u0 u1 u2
  refine (toPuzzle_any W H A L.length c L w3 rfl hc hn ((hL.below HB).mono HB.size)).mono ?_
  rintro e w4 ⟨gx, rfl, hb, ox⟩
  have hgx := own_lt ox
  have hkx := own_in ox
  have hs_3 := hb.size
  replace HB := HB.trans (hb.mono HB.size)
  replace ba := ba.next hb
  replace vc := vc.next hb
  replace bw := bw.next hb
  replace o0 := own_keep o0 hb
  clear hb
  go_wp2_with fail
  obtain ⟨W5, hW⟩ : ∃ W5, W5 = w4.alloc (.cells #[.int .i64 W, .int .i64 H, .slice (some ⟨gx, 0, none⟩) L.length L.length] 35) := ⟨_, rfl⟩
  have hb : Below w4.heap.size w4 W5 := by rw [hW]; exact (Below.refl _ _).alloc (Nat.le_refl _) _
  have bx : Bx w4.heap.size W5 W H (some ⟨gx, 0, none⟩) L.length L.length := by rw [hW]; exact Bx.start _ _ _ _ _ _ _
  have hl_bx := bx.lt
  rw [← hW]
  clear hW
  have hs_4 := hb.size
  replace HB := HB.trans (hb.mono HB.size)
  replace ba := ba.next hb
  replace vc := vc.next hb
  replace bw := bw.next hb
  replace o0 := own_keep o0 hb
  replace ox := own_keep ox hb
  clear hb
  obtain ⟨ul, u0, u1, u2⟩ := id ba
  obtain ⟨vl, v0, v1, v2⟩ := id vc
  obtain ⟨xl, x0, x1, x2⟩ := id bx
  go_upto_region 7 with fail
  go_cut [9, 10] (fun s1 s2 wx => ∃ (g c0 : Nat) (A0 : Option Addr), s1 = .pointer (some ⟨g, 0, none⟩) ∧ s2 = .bool Z.2.2.2 ∧ RQ W5 wx g Z.1 Z.2.1 A0 Z.2.2.1 c0)
  case first =>
    go_region_held3 (fun w' => Below W5.heap.size W5 w' ∧ W5.heap.size ≤ w'.heap.size ∧ ∀ b o, b < W5.heap.size → w'.cell? ⟨b, o, none⟩ = W5.cell? ⟨b, o, none⟩)
      (first | assumption | exact keepS (by assumption) (by assumption) | exact putS3 (by assumption) (And.left (And.right (by assumption))) | exact putS3 (by assumption) (Nat.le_refl _) | exact ⟨(Below.refl _ _).drew, Nat.le_refl _, fun _ _ _ => rfl⟩ | exact keepS (by assumption) ((Below.refl _ _).alloc (Nat.le_refl _) _))
      (first
        | (go_at_call 10; refine (toClue_any s.x s.y s.d _).mono ?_; rintro e wW ⟨rfl, hbW⟩; have hSW := keepS (by assumption) hbW; have sW := hbW.size; (try simp at sW))
        | (go_at_call 27; refine (implAc_any W H _ _ _ L s _ rfl (Nat.le_refl _) hn (by simp) (cls_of_own (own_keep ox (by first | exact And.left (by assumption) | exact And.left (keepS (by assumption) ((Below.refl _ _).alloc (Nat.le_refl _) _)))))).mono ?_; rintro e wE hret; rw [HZ.out] at hret; obtain ⟨A0, c0, rfl, oE, hbS⟩ := hret; have hSE := keepS (by assumption) hbS; (try have z0 := box0 (by (first | exact hbS | exact nx hbW hbS | exact nx (unD hbW) hbS))); (try have z1 := box1 (by (first | exact hbS | exact nx hbW hbS | exact nx (unD hbW) hbS))); (try have z2 := box2 (by (first | exact hbS | exact nx hbW hbS | exact nx (unD hbW) hbS))); (try have f0 := boxf (by (first | exact hbS | exact nx hbW hbS | exact nx (unD hbW) hbS)) 0); (try have f1 := boxf (by (first | exact hbS | exact nx hbW hbS | exact nx (unD hbW) hbS)) 1); (try have f2 := boxf (by (first | exact hbS | exact nx hbW hbS | exact nx (unD hbW) hbS)) 2)))
    all_goals (go_wp2_with fail; go_meet)
    all_goals
      refine ⟨_, c0, A0, rfl, rfl, ?_⟩
      first
        | exact RQ.late (belowS (Wc := W5) (by assumption)) (szS (Wc := W5) (by assumption)) oE (by first | omega | (simp; done) | (simp; omega))
        | exact RQ.early (szS (Wc := W5) (by assumption)) (belowS (Wc := W5) (by assumption)) (by (first | exact hbS | exact nx hbW hbS | exact nx (unD hbW) hbS)) oE (by first | omega | (simp; done) | (simp; omega))
        | exact RQ.early (Nat.le_refl _) (belowS (Wc := W5) (by assumption)) (by (first | exact hbS | exact nx hbW hbS | exact nx (unD hbW) hbS)) oE (by first | omega | (simp; done) | (simp; omega))
  clear ul u0 u1 u2 vl v0 v1 v2 xl x0 x1 x2
  obtain ⟨g7, cg, Ag, rfl, rfl, hRQ⟩ := hcut
  obtain ⟨w8, hw3⟩ : ∃ w3, w3 = wc := ⟨_, rfl⟩
  rw [← hw3] at hRQ ⊢
  clear hw3
  have hb := hRQ.bel
  have hs_5 := hb.size
  replace HB := HB.trans (hb.mono HB.size)
  replace ba := ba.next hb
  replace vc := vc.next hb
  replace bw := bw.next hb
  replace bx := bx.next hb
  replace o0 := own_keep o0 hb
  replace ox := own_keep ox hb
  clear hb
  have og := hRQ.own
  have bg := hRQ.box
  have hg7 := hRQ.g0
  have hg7' := bg.lt
  have hkg := own_in og
  have hne7 := Lib.hid hRQ.ne
  clear hRQ
  obtain ⟨pl, p0, p1, p2⟩ := id bw
  obtain ⟨ql, q0, q1, q2⟩ := id bg
  go_wp2_with fail
  clear pl p0 p1 p2 ql q0 q1 q2
  refine (eqPuzzle_same Z.1 Z.2.1 Ag A0 Z.2.2.1.length cg c0 Z.2.2.1 _ rfl hRn (own_cap og) (own_cap o0) (cls_of_own og) (cls_of_own o0)).mono ?_
  rintro e w10 ⟨rfl, hb⟩
  have hs_6 := hb.size
  replace HB := HB.trans (hb.mono HB.size)
  replace ba := ba.next hb
  replace vc := vc.next hb
  replace bw := bw.next hb
  replace bx := bx.next hb
  replace bg := bg.next hb
  replace o0 := own_keep o0 hb
  replace ox := own_keep ox hb
  replace og := own_keep og hb
  clear hb
  obtain ⟨xl, x0, x1, x2⟩ := id bx
  obtain ⟨ul, u0, u1, u2⟩ := id ba
  have hX := cls_of_own ox
  have hT := (hL.below HB).mono HB.size
  go_wp2_with fail
  go_region_held3 (fun w' => Below w10.heap.size w10 w' ∧ w10.heap.size ≤ w'.heap.size ∧ ∀ b o, b < w10.heap.size → w'.cell? ⟨b, o, none⟩ = w10.cell? ⟨b, o, none⟩)
    (first | exact keepS (by assumption) (by assumption) | exact ⟨(Below.refl _ _).drew, Nat.le_refl _, fun _ _ _ => rfl⟩)
    (first
      | (go_at_call 14; refine (toPuzzle_any W H A L.length c L _ rfl hc hn (sqsS hT (by assumption))).mono ?_; rintro e wt ⟨gt, rfl, hbt, hot⟩)
      | (go_at_call 16; refine (eqPuzzle_same W H _ _ _ _ _ L _ rfl hn (Nat.le_refl _) (Nat.le_refl _) (sqsS hX (by assumption)) (cls_of_own (by assumption))).mono ?_; rintro e w11 ⟨rfl, hbe⟩))
  have hb := belowS (B := w10.heap.size) (wp := w11) (by assumption)
  clear xl x0 x1 x2 ul u0 u1 u2
  clear hX hT
  have hs_7 := hb.size
  replace HB := HB.trans (hb.mono HB.size)
  replace ba := ba.next hb
  replace vc := vc.next hb
  replace bw := bw.next hb
  replace bx := bx.next hb
  replace bg := bg.next hb
  replace o0 := own_keep o0 hb
  replace ox := own_keep ox hb
  replace og := own_keep og hb
  clear hb
  obtain ⟨xl, x0, x1, x2⟩ := id bx
  go_wp2_with fail
  clear xl x0 x1 x2
  refine (markPuzzle_any W H _ _ _ _ _ 1 _ hn (by decide) (by decide) ox).mono ?_
  rintro e w13 ⟨rfl, hox, hgr⟩
  have hs_8 := hgr.size
  have hz_8 := HB.size
  replace HB := HB.grown hgr HB.size (fun k he => by simp [Value.ownBlock] at he; omega)
  replace ba := ba.far hgr (fun he => by simp [Value.ownBlock] at he; omega)
  replace vc := vc.far hgr (fun he => by simp [Value.ownBlock] at he; omega)
  replace bw := bw.far hgr (fun he => by simp [Value.ownBlock] at he; omega)
  replace bx := bx.far hgr (fun he => by simp [Value.ownBlock] at he; omega)
  replace bg := bg.far hgr (fun he => by simp [Value.ownBlock] at he; omega)
  replace o0 := own_far o0 hgr (fun k hk he => by have := hk0.out k hk; simp [Value.ownBlock] at he; omega)
  replace og := own_far og hgr (fun k hk he => by have := hkg.out k hk; simp [Value.ownBlock] at he; omega)
  clear hgr
  clear ox hox bx
  have h2 : ¬ (1 : Int) + 3 * L.length < 0 := by omega
  obtain ⟨pl, p0, p1, p2⟩ := id bw
  obtain ⟨ql, q0, q1, q2⟩ := id bg
  go_wp2_with fail
  clear pl p0 p1 p2 ql q0 q1 q2
  refine (eqPuzzle_same Z.1 Z.2.1 Ag A0 Z.2.2.1.length cg c0 Z.2.2.1 _ rfl hRn (own_cap og) (own_cap o0) (cls_of_own og) (cls_of_own o0)).mono ?_
  rintro e w15 ⟨rfl, hb⟩
  have hs_9 := hb.size
  replace HB := HB.trans (hb.mono HB.size)
  replace ba := ba.next hb
  replace vc := vc.next hb
  replace bw := bw.next hb
  replace bg := bg.next hb
  replace o0 := own_keep o0 hb
  replace og := own_keep og hb
  clear hb
  obtain ⟨ql, q0, q1, q2⟩ := id bg
  go_wp2_with fail
  clear ql q0 q1 q2
  refine (markPuzzle_any Z.1 Z.2.1 Ag Z.2.2.1.length cg _ _ 1 _ hRn (by decide) (by decide) og).mono ?_
  rintro e w16 ⟨rfl, hog, hgr⟩
  have hs_10 := hgr.size
  have hz_10 := HB.size
  replace HB := HB.grown hgr HB.size (fun k he => by have := hkg.out _ he; omega)
  replace ba := ba.far hgr (fun he => by have := hkg.out _ he; omega)
  replace vc := vc.far hgr (fun he => by have := hkg.out _ he; omega)
  replace bw := bw.far hgr (fun he => by have := hkg.out _ he; omega)
  replace bg := bg.far hgr (fun he => hne7.out _ he rfl)
  replace o0 := own_far o0 hgr (fun k hk he => by have := hk0.out k hk; have := hkg.out _ he; omega)
  clear hgr
  replace og := hog
  clear hog
  have h3 : ¬ (1 : Int) + 3 * Z.2.2.1.length < 0 := by omega
  obtain ⟨ql, q0, q1, q2⟩ := id bg
  go_wp2_with fail
  clear ql q0 q1 q2
  refine (heldPuzzle_any Z.1 Z.2.1 Ag Z.2.2.1.length cg 1 _ hRn (by decide) (by decide) (cls_of_own og)).mono ?_
  rintro e w17 ⟨rfl, hb⟩
  have hs_11 := hb.size
  replace HB := HB.trans (hb.mono HB.size)
  replace ba := ba.next hb
  replace vc := vc.next hb
  replace bw := bw.next hb
  replace bg := bg.next hb
  replace o0 := own_keep o0 hb
  replace og := own_keep og hb
  clear hb
  obtain ⟨ul, u0, u1, u2⟩ := id ba
  obtain ⟨vl, v0, v1, v2⟩ := id vc
  have hT := (hL.below HB).mono HB.size
  go_upto_region 24 with fail
  go_cut [14, 15] (fun s1 s2 wx => ∃ (g c0 : Nat) (A0 : Option Addr), s1 = .pointer (some ⟨g, 0, none⟩) ∧ s2 = .bool Z.2.2.2 ∧ RQ w17 wx g Z.1 Z.2.1 A0 Z.2.2.1 c0)
  case first =>
    go_region_held3 (fun w' => Below w17.heap.size w17 w' ∧ w17.heap.size ≤ w'.heap.size ∧ ∀ b o, b < w17.heap.size → w'.cell? ⟨b, o, none⟩ = w17.cell? ⟨b, o, none⟩)
      (first | assumption | exact keepS (by assumption) (by assumption) | exact putS3 (by assumption) (And.left (And.right (by assumption))) | exact putS3 (by assumption) (Nat.le_refl _) | exact ⟨(Below.refl _ _).drew, Nat.le_refl _, fun _ _ _ => rfl⟩ | exact keepS (by assumption) ((Below.refl _ _).alloc (Nat.le_refl _) _))
      (first
        | (go_at_call 14; refine (toPuzzle_any W H A L.length c L _ rfl hc hn (sqsS hT (by assumption))).mono ?_; rintro e wN ⟨gN, rfl, hbN, oN⟩; have hSN := keepS (by assumption) hbN; have sN := hbN.size; (try simp at sN))
        | (go_at_call 10; refine (toClue_any s.x s.y s.d _).mono ?_; rintro e wW ⟨rfl, hbW⟩; have hSW := keepS (by assumption) hbW; have sW := hbW.size; (try simp at sW); first | (have oN := own_keep oN hbW) | (have oN := own_keep (own_keep oN ((Below.refl _ _).alloc (Nat.le_refl _) _)) hbW) | skip)
        | (go_at_call 27; refine (implAc_any W H _ _ _ L s _ rfl (Nat.le_refl _) hn (by simp) (by first | exact cls_of_own oN | exact cls_of_own (own_keep oN ((Below.refl _ _).alloc (Nat.le_refl _) _)))).mono ?_; rintro e wE hret; rw [HZ.out] at hret; obtain ⟨A0, c0, rfl, oE, hbS⟩ := hret; have hSE := keepS (by assumption) hbS; (try have z0 := box0 (by (first | exact hbS | exact nx hbW hbS | exact nx (unD hbW) hbS | exact nx hbN hbS | exact nx (nx hbN hbW) hbS | exact nx (nx hbW hbN) hbS | exact nx (nx (unD hbN) hbW) hbS | exact nx (nx (unD hbW) hbN) hbS))); (try have z1 := box1 (by (first | exact hbS | exact nx hbW hbS | exact nx (unD hbW) hbS | exact nx hbN hbS | exact nx (nx hbN hbW) hbS | exact nx (nx hbW hbN) hbS | exact nx (nx (unD hbN) hbW) hbS | exact nx (nx (unD hbW) hbN) hbS))); (try have z2 := box2 (by (first | exact hbS | exact nx hbW hbS | exact nx (unD hbW) hbS | exact nx hbN hbS | exact nx (nx hbN hbW) hbS | exact nx (nx hbW hbN) hbS | exact nx (nx (unD hbN) hbW) hbS | exact nx (nx (unD hbW) hbN) hbS))); (try have f0 := boxf (by (first | exact hbS | exact nx hbW hbS | exact nx (unD hbW) hbS | exact nx hbN hbS | exact nx (nx hbN hbW) hbS | exact nx (nx hbW hbN) hbS | exact nx (nx (unD hbN) hbW) hbS | exact nx (nx (unD hbW) hbN) hbS)) 0); (try have f1 := boxf (by (first | exact hbS | exact nx hbW hbS | exact nx (unD hbW) hbS | exact nx hbN hbS | exact nx (nx hbN hbW) hbS | exact nx (nx hbW hbN) hbS | exact nx (nx (unD hbN) hbW) hbS | exact nx (nx (unD hbW) hbN) hbS)) 1); (try have f2 := boxf (by (first | exact hbS | exact nx hbW hbS | exact nx (unD hbW) hbS | exact nx hbN hbS | exact nx (nx hbN hbW) hbS | exact nx (nx hbW hbN) hbS | exact nx (nx (unD hbN) hbW) hbS | exact nx (nx (unD hbW) hbN) hbS)) 2)))
    all_goals (go_wp2_with fail; go_meet)
    all_goals
      refine ⟨_, c0, A0, rfl, rfl, ?_⟩
      first
        | exact RQ.late (belowS (Wc := w17) (by assumption)) (szS (Wc := w17) (by assumption)) oE (by first | omega | (simp; done) | (simp; omega))
        | exact RQ.early (szS (Wc := w17) (by assumption)) (belowS (Wc := w17) (by assumption)) (by (first | exact hbS | exact nx hbW hbS | exact nx (unD hbW) hbS | exact nx hbN hbS | exact nx (nx hbN hbW) hbS | exact nx (nx hbW hbN) hbS | exact nx (nx (unD hbN) hbW) hbS | exact nx (nx (unD hbW) hbN) hbS)) oE (by first | omega | (simp; done) | (simp; omega))
        | exact RQ.early (Nat.le_refl _) (belowS (Wc := w17) (by assumption)) (by (first | exact hbS | exact nx hbW hbS | exact nx (unD hbW) hbS | exact nx hbN hbS | exact nx (nx hbN hbW) hbS | exact nx (nx hbW hbN) hbS | exact nx (nx (unD hbN) hbW) hbS | exact nx (nx (unD hbW) hbN) hbS)) oE (by first | omega | (simp; done) | (simp; omega))
  clear ul u0 u1 u2 vl v0 v1 v2
  clear hT
  obtain ⟨g14, ch, Ah, rfl, rfl, hRQ⟩ := hcut
  obtain ⟨w18, hw3⟩ : ∃ w3, w3 = wc := ⟨_, rfl⟩
  rw [← hw3] at hRQ ⊢
  clear hw3
  have hb := hRQ.bel
  have hs_12 := hb.size
  replace HB := HB.trans (hb.mono HB.size)
  replace ba := ba.next hb
  replace vc := vc.next hb
  replace bw := bw.next hb
  replace bg := bg.next hb
  replace o0 := own_keep o0 hb
  replace og := own_keep og hb
  clear hb
  have oh := hRQ.own
  have bh := hRQ.box
  have hg14 := hRQ.g0
  have hg14' := bh.lt
  have hkh := own_in oh
  clear hRQ
  obtain ⟨pl, p0, p1, p2⟩ := id bw
  obtain ⟨ql, q0, q1, q2⟩ := id bh
  go_wp2_with fail
  clear pl p0 p1 p2 ql q0 q1 q2
  refine (eqPuzzle_same Z.1 Z.2.1 Ah A0 Z.2.2.1.length ch c0 Z.2.2.1 _ rfl hRn (own_cap oh) (own_cap o0) (cls_of_own oh) (cls_of_own o0)).mono ?_
  rintro e w21 ⟨rfl, hb⟩
  have hs_13 := hb.size
  replace HB := HB.trans (hb.mono HB.size)
  replace ba := ba.next hb
  replace vc := vc.next hb
  replace bw := bw.next hb
  replace bg := bg.next hb
  replace bh := bh.next hb
  replace o0 := own_keep o0 hb
  replace og := own_keep og hb
  replace oh := own_keep oh hb
  clear hb
  obtain ⟨ql, q0, q1, q2⟩ := id bg
  go_wp2_with fail
  clear ql q0 q1 q2
  refine (heldPuzzle_any Z.1 Z.2.1 Ag Z.2.2.1.length cg 1 _ hRn (by decide) (by decide) (cls_of_own og)).mono ?_
  rintro e w22 ⟨rfl, hb⟩
  have hs_14 := hb.size
  replace HB := HB.trans (hb.mono HB.size)
  replace ba := ba.next hb
  replace vc := vc.next hb
  replace bw := bw.next hb
  replace bg := bg.next hb
  replace bh := bh.next hb
  replace o0 := own_keep o0 hb
  replace og := own_keep og hb
  replace oh := own_keep oh hb
  clear hb
  go_wp2_with fail
  go_ret
  exact ⟨rfl, HB⟩
theorem lawAddClue_over (W H : Int) (A : Option Addr) (n c : Nat) (L : List Sq) (s : Sq) (w : World) (h : 1048576 < n) (hn : n ≤ 9223372036854775807) :
    Calls Try.prog 7 #[.agg #[.int .i64 W, .int .i64 H, .slice A n c], .agg #[.int .i64 s.x, .int .i64 s.y, .int .i64 s.d]] w fun e w' => e = .returned (.bool true) ∧ Below w.heap.size w w' := by
  have HB : Below w.heap.size w ((w.alloc (.cells #[.int .i64 W, .int .i64 H, .slice A n c] 30)).alloc (.cells #[.int .i64 s.x, .int .i64 s.y, .int .i64 s.d] 23)) := ((Below.refl _ _).alloc (Nat.le_refl _) _).alloc (by simp) _
  go_enter Try.func7, Try.ntmps7
  go_wp2_with fail
  refine (szPuzzleL_over W H A n c 1048576 _ (by decide) (by decide) (by omega) hn).mono ?_
  rintro e w1 ⟨rfl, hb⟩
  go_wp2_with fail
  go_ret
  exact ⟨rfl, HB.trans (hb.mono HB.size)⟩
end Go.Proofs.Ytpbghalljfcaoaa
