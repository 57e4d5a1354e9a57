/- The walk of FnExactTakePart. -/
import Derived.Test.YtilneimiedfjnaaSzL
import Derived.Test.YtilneimiedfjnaaTakeI
import Derived.Test.YtilneimiedfjnaaTakeS
set_option linter.all false
namespace Go.Proofs.Ytilneimiedfjnaa
open Go.RowKit

set_option maxRecDepth 100000 in
set_option maxHeartbeats 8000000 in
theorem lawTakePart (W H : Int) (A : Option Addr) (n c : Nat) (L : List Sq) (A' : Option Addr) (n' c' : Nat) (K : List Int) (w : World) (hl : L.length = n) (hl' : K.length = n') (hc : n ≤ c) (hn : n ≤ 1048576) (hn' : n' ≤ 1048576) (hL : SqsAt w w.heap.size A L) (hK : IntsAt w w.heap.size A' K) (hwf : ∀ s ∈ L, wfS s) :
    Calls Try.prog 3 #[.agg #[.int .i64 W, .int .i64 H, .slice A n c], .slice A' n' c'] w fun e w' => e = .returned (.bool true) ∧ Below w.heap.size w w' := by
  subst hl
  subst hl'
  obtain ⟨Z, hZ⟩ : ∃ Z, tpT W H L K = Z := ⟨_, rfl⟩
  have hRn : Z.2.2.1.length ≤ 1048576 := by rw [← hZ]; exact Nat.le_trans (tpT_len W H L K) (by decide)
  have HZ := Lib.hid hZ
  clear hZ
  have h1 : (Z.2.2.2 != Z.2.2.2) = false := by simp
  have dk : decide ((1048576 : Int) < (K.length : Int)) = false := decide_eq_false (by omega)
  have ba := Bx.start w W H A L.length c 24
  have HB : Below w.heap.size w (w.alloc (.cells #[.int .i64 W, .int .i64 H, .slice A L.length c] 24)) := (Below.refl _ _).alloc (Nat.le_refl _) _
  go_enter Try.func3, Try.ntmps3
  go_wp2_with fail
  obtain ⟨W1, hW1⟩ : ∃ W1, W1 = (w.alloc (.cells #[.int .i64 W, .int .i64 H, .slice A L.length c] 24)) := ⟨_, rfl⟩
  have hs_0 : w.heap.size + 1 = W1.heap.size := by rw [hW1]; simp
  rw [← hW1] at ba HB ⊢
  clear hW1
  refine (szCutL_ok W H A L.length c 1048576 W1 (by decide) (by omega)).mono ?_
  rintro e w1 ⟨rfl, hb⟩
  have hs_1 := hb.size
  replace HB := HB.trans (hb.mono HB.size)
  replace ba := ba.next hb
  clear hb
  have h' : ¬ (1048576 : Int) - L.length < 0 := by omega
  obtain ⟨ul, u0, u1, u2⟩ := id ba
  go_wp2_with fail
  clear ul u0 u1 u2
  refine (toCut_any W H A L.length c L w1 rfl hc hn ((hL.below HB).mono HB.size)).mono ?_
  rintro e w2 ⟨gs, rfl, hb, os⟩
  have hs_2 := hb.size
  replace HB := HB.trans (hb.mono HB.size)
  replace ba := ba.next hb
  clear hb
  go_wp2_with fail
  refine (toIntS_any A' K.length c' K w2 rfl hn' ((hK.below HB).mono HB.size)).mono ?_
  rintro e w2b ⟨gi, rfl, hb, oi⟩
  have hs_3 := hb.size
  replace HB := HB.trans (hb.mono HB.size)
  replace ba := ba.next hb
  replace os := own_keep os hb
  clear hb
  go_wp2_with fail
  refine (specTake_any W H _ _ _ L _ _ _ K w2b rfl rfl (Nat.le_refl _) hn' (sqs_of_own os) (ints_of_own oi)).mono ?_
  rintro e w3 hret
  rw [HZ.out] at hret
  obtain ⟨A0, c0, rfl, o0, hb⟩ := hret
  have hk0 := own_in o0
  have hs_4 := hb.size
  replace HB := HB.trans (hb.mono HB.size)
  replace ba := ba.next hb
  replace os := own_keep os hb
  replace oi := own_keep oi hb
  clear hb
  clear os oi
  obtain ⟨ul, u0, u1, u2⟩ := id ba
  go_wp2_with fail
  clear ul u0 u1 u2
  obtain ⟨w3b, hW⟩ : ∃ w3b, w3b = w3.alloc (.cells #[.int .i64 Z.1, .int .i64 Z.2.1, .slice A0 Z.2.2.1.length c0] 29) := ⟨_, rfl⟩
  have hb : Below w3.heap.size w3 w3b := by rw [hW]; exact (Below.refl _ _).alloc (Nat.le_refl _) _
  have bw : Bx w3.heap.size w3b Z.1 Z.2.1 A0 Z.2.2.1.length c0 := by rw [hW]; exact Bx.start _ _ _ _ _ _ _
  have hl_bw := bw.lt
  rw [← hW]
  clear hW
  have hs_5 := hb.size
  replace HB := HB.trans (hb.mono HB.size)
  replace ba := ba.next hb
  replace o0 := own_keep o0 hb
  clear hb
  refine (toCut_any W H A L.length c L w3b rfl hc hn ((hL.below HB).mono HB.size)).mono ?_
  rintro e w4 ⟨gx, rfl, hb, ox⟩
  have hgx := own_lt ox
  have hkx := own_in ox
  have hs_6 := hb.size
  replace HB := HB.trans (hb.mono HB.size)
  replace ba := ba.next hb
  replace bw := bw.next hb
  replace o0 := own_keep o0 hb
  clear hb
  go_wp2_with fail
  obtain ⟨W5, hW⟩ : ∃ W5, W5 = w4.alloc (.cells #[.int .i64 W, .int .i64 H, .slice (some ⟨gx, 0, none⟩) L.length L.length] 29) := ⟨_, rfl⟩
  have hb : Below w4.heap.size w4 W5 := by rw [hW]; exact (Below.refl _ _).alloc (Nat.le_refl _) _
  have bx : Bx w4.heap.size W5 W H (some ⟨gx, 0, none⟩) L.length L.length := by rw [hW]; exact Bx.start _ _ _ _ _ _ _
  have hl_bx := bx.lt
  rw [← hW]
  clear hW
  have hs_7 := hb.size
  replace HB := HB.trans (hb.mono HB.size)
  replace ba := ba.next hb
  replace bw := bw.next hb
  replace o0 := own_keep o0 hb
  replace ox := own_keep ox hb
  clear hb
  refine (toIntS_any A' K.length c' K W5 rfl hn' ((hK.below HB).mono HB.size)).mono ?_
  rintro e w6 ⟨gy, rfl, hb, oy⟩
  have hgy := own_lt oy
  have hky := own_in oy
  have hs_8 := hb.size
  replace HB := HB.trans (hb.mono HB.size)
  replace ba := ba.next hb
  replace bw := bw.next hb
  replace bx := bx.next hb
  replace o0 := own_keep o0 hb
  replace ox := own_keep ox hb
  clear hb
  obtain ⟨xl, x0, x1, x2⟩ := id bx
  go_wp2_with fail
  clear xl x0 x1 x2
  refine (implTake_any W H _ _ _ L _ _ _ K w6 rfl rfl (Nat.le_refl _) hn' (sqs_of_own ox) (ints_of_own oy) hwf).mono ?_
  rintro e w8 hret
  rw [HZ.out] at hret
  obtain ⟨Ag, cg, rfl, og, hb⟩ := hret
  have hkg := own_in og
  have hs_9 := hb.size
  replace HB := HB.trans (hb.mono HB.size)
  replace ba := ba.next hb
  replace bw := bw.next hb
  replace bx := bx.next hb
  replace o0 := own_keep o0 hb
  replace ox := own_keep ox hb
  replace oy := own_keep oy hb
  clear hb
  obtain ⟨pl, p0, p1, p2⟩ := id bw
  go_wp2_with fail
  clear pl p0 p1 p2
  obtain ⟨W9, hW⟩ : ∃ W9, W9 = w8.alloc (.cells #[.int .i64 Z.1, .int .i64 Z.2.1, .slice Ag Z.2.2.1.length cg] 29) := ⟨_, rfl⟩
  have hb : Below w8.heap.size w8 W9 := by rw [hW]; exact (Below.refl _ _).alloc (Nat.le_refl _) _
  have bg : Bx w8.heap.size W9 Z.1 Z.2.1 Ag Z.2.2.1.length cg := by rw [hW]; exact Bx.start _ _ _ _ _ _ _
  have hl_bg := bg.lt
  rw [← hW]
  clear hW
  have hs_10 := hb.size
  replace HB := HB.trans (hb.mono HB.size)
  replace ba := ba.next hb
  replace bw := bw.next hb
  replace bx := bx.next hb
  replace o0 := own_keep o0 hb
  replace ox := own_keep ox hb
  replace oy := own_keep oy hb
  replace og := own_keep og hb
  clear hb
  refine (eqCut_same Z.1 Z.2.1 Ag A0 Z.2.2.1.length cg c0 Z.2.2.1 _ rfl hRn (own_cap og) (own_cap o0) (sqs_of_own og) (sqs_of_own o0)).mono ?_
  rintro e w10 ⟨rfl, hb⟩
  have hs_11 := hb.size
  replace HB := HB.trans (hb.mono HB.size)
  replace ba := ba.next hb
  replace bw := bw.next hb
  replace bx := bx.next hb
  replace bg := bg.next hb
  replace o0 := own_keep o0 hb
  replace ox := own_keep ox hb
  replace oy := own_keep oy hb
  replace og := own_keep og hb
  clear hb
  obtain ⟨xl, x0, x1, x2⟩ := id bx
  obtain ⟨ul, u0, u1, u2⟩ := id ba
  have hX := sqs_of_own ox
  have hT := (hL.below HB).mono HB.size
  go_wp2_with fail
  go_region_held3 (fun w' => Below w10.heap.size w10 w' ∧ w10.heap.size ≤ w'.heap.size ∧ ∀ b o, b < w10.heap.size → w'.cell? ⟨b, o, none⟩ = w10.cell? ⟨b, o, none⟩)
    (first | exact keepS (by assumption) (by assumption) | exact ⟨(Below.refl _ _).drew, Nat.le_refl _, fun _ _ _ => rfl⟩)
    (first
      | (go_at_call 17; refine (toCut_any W H A L.length c L _ rfl hc hn (sqsS hT (by assumption))).mono ?_; rintro e wt ⟨gt, rfl, hbt, hot⟩)
      | (go_at_call 20; refine (eqCut_same W H _ _ _ _ _ L _ rfl hn (Nat.le_refl _) (Nat.le_refl _) (sqsS hX (by assumption)) (sqs_of_own (by assumption))).mono ?_; rintro e w11 ⟨rfl, hbe⟩))
  have hb := belowS (B := w10.heap.size) (wp := w11) (by assumption)
  clear xl x0 x1 x2 ul u0 u1 u2
  clear hX hT
  have hs_12 := hb.size
  replace HB := HB.trans (hb.mono HB.size)
  replace ba := ba.next hb
  replace bw := bw.next hb
  replace bx := bx.next hb
  replace bg := bg.next hb
  replace o0 := own_keep o0 hb
  replace ox := own_keep ox hb
  replace oy := own_keep oy hb
  replace og := own_keep og hb
  clear hb
  go_wp2_with fail
  refine (toIntS_any A' K.length c' K w11 rfl hn' ((hK.below HB).mono HB.size)).mono ?_
  rintro e w12 ⟨gz, rfl, hb, oz⟩
  have hs_13 := hb.size
  replace HB := HB.trans (hb.mono HB.size)
  replace ba := ba.next hb
  replace bw := bw.next hb
  replace bx := bx.next hb
  replace bg := bg.next hb
  replace o0 := own_keep o0 hb
  replace ox := own_keep ox hb
  replace oy := own_keep oy hb
  replace og := own_keep og hb
  clear hb
  go_wp2_with fail
  refine (eqIntS_same _ _ K.length _ _ K w12 rfl hn' (Nat.le_refl _) (Nat.le_refl _) (ints_of_own oy) (ints_of_own oz)).mono ?_
  rintro e w12b ⟨rfl, hb⟩
  have hs_14 := hb.size
  replace HB := HB.trans (hb.mono HB.size)
  replace ba := ba.next hb
  replace bw := bw.next hb
  replace bx := bx.next hb
  replace bg := bg.next hb
  replace o0 := own_keep o0 hb
  replace ox := own_keep ox hb
  replace oy := own_keep oy hb
  replace og := own_keep og hb
  replace oz := own_keep oz hb
  clear hb
  clear oz
  obtain ⟨xl, x0, x1, x2⟩ := id bx
  go_wp2_with fail
  clear xl x0 x1 x2
  refine (markCut_any W H _ _ _ _ _ 1 _ hn (by decide) (by decide) ox).mono ?_
  rintro e w13 ⟨rfl, hox, hgr⟩
  have hs_15 := hgr.size
  have hz_15 := HB.size
  replace HB := HB.grown hgr HB.size (fun k he => by simp [Value.ownBlock] at he; omega)
  replace ba := ba.far hgr (fun he => by simp [Value.ownBlock] at he; omega)
  replace bw := bw.far hgr (fun he => by simp [Value.ownBlock] at he; omega)
  replace bx := bx.far hgr (fun he => by simp [Value.ownBlock] at he; omega)
  replace bg := bg.far hgr (fun he => by simp [Value.ownBlock] at he; omega)
  replace o0 := own_far o0 hgr (fun k hk he => by have := hk0.out k hk; simp [Value.ownBlock] at he; omega)
  replace oy := own_far oy hgr (fun k hk he => by have := hky.out k hk; simp [Value.ownBlock] at he; omega)
  replace og := own_far og hgr (fun k hk he => by have := hkg.out k hk; simp [Value.ownBlock] at he; omega)
  clear hgr
  clear ox hox bx
  go_wp2_with fail
  refine (markIntS_any _ _ _ _ _ (1 + 3 * (L.length : Int)) _ hn' (by omega) (by omega) oy).mono ?_
  rintro e w14 ⟨rfl, hoy, hgr⟩
  have hs_16 := hgr.size
  have hz_16 := HB.size
  replace HB := HB.grown hgr HB.size (fun k he => by simp [Value.ownBlock] at he; omega)
  replace ba := ba.far hgr (fun he => by simp [Value.ownBlock] at he; omega)
  replace bw := bw.far hgr (fun he => by simp [Value.ownBlock] at he; omega)
  replace bg := bg.far hgr (fun he => by simp [Value.ownBlock] at he; omega)
  replace o0 := own_far o0 hgr (fun k hk he => by have := hk0.out k hk; simp [Value.ownBlock] at he; omega)
  replace og := own_far og hgr (fun k hk he => by have := hkg.out k hk; simp [Value.ownBlock] at he; omega)
  clear hgr
  clear oy hoy
  have h2 : ¬ (1 : Int) + 3 * L.length + K.length < 0 := by omega
  obtain ⟨pl, p0, p1, p2⟩ := id bw
  obtain ⟨ql, q0, q1, q2⟩ := id bg
  go_wp2_with fail
  clear pl p0 p1 p2 ql q0 q1 q2
  refine (eqCut_same Z.1 Z.2.1 Ag A0 Z.2.2.1.length cg c0 Z.2.2.1 _ rfl hRn (own_cap og) (own_cap o0) (sqs_of_own og) (sqs_of_own o0)).mono ?_
  rintro e w15 ⟨rfl, hb⟩
  have hs_17 := hb.size
  replace HB := HB.trans (hb.mono HB.size)
  replace ba := ba.next hb
  replace bw := bw.next hb
  replace bg := bg.next hb
  replace o0 := own_keep o0 hb
  replace og := own_keep og hb
  clear hb
  obtain ⟨ql, q0, q1, q2⟩ := id bg
  go_wp2_with fail
  clear ql q0 q1 q2
  refine (markCut_any Z.1 Z.2.1 Ag Z.2.2.1.length cg _ _ 1 _ hRn (by decide) (by decide) og).mono ?_
  rintro e w16 ⟨rfl, hog, hgr⟩
  have hs_18 := hgr.size
  have hz_18 := HB.size
  replace HB := HB.grown hgr HB.size (fun k he => by have := hkg.out _ he; omega)
  replace ba := ba.far hgr (fun he => by have := hkg.out _ he; omega)
  replace bw := bw.far hgr (fun he => by have := hkg.out _ he; omega)
  replace bg := bg.far hgr (fun he => by have := hkg.out _ he; omega)
  replace o0 := own_far o0 hgr (fun k hk he => by have := hk0.out k hk; have := hkg.out _ he; omega)
  clear hgr
  replace og := hog
  clear hog
  have h3 : ¬ (1 : Int) + 3 * Z.2.2.1.length < 0 := by omega
  obtain ⟨ql, q0, q1, q2⟩ := id bg
  go_wp2_with fail
  clear ql q0 q1 q2
  refine (heldCut_any Z.1 Z.2.1 Ag Z.2.2.1.length cg 1 _ hRn (by decide) (by decide) (sqs_of_own og)).mono ?_
  rintro e w17 ⟨rfl, hb⟩
  have hs_19 := hb.size
  replace HB := HB.trans (hb.mono HB.size)
  replace ba := ba.next hb
  replace bw := bw.next hb
  replace bg := bg.next hb
  replace o0 := own_keep o0 hb
  replace og := own_keep og hb
  clear hb
  obtain ⟨ul, u0, u1, u2⟩ := id ba
  go_wp2_with fail
  clear ul u0 u1 u2
  refine (toCut_any W H A L.length c L w17 rfl hc hn ((hL.below HB).mono HB.size)).mono ?_
  rintro e w18 ⟨gt, rfl, hb, ot⟩
  have hs_20 := hb.size
  replace HB := HB.trans (hb.mono HB.size)
  replace ba := ba.next hb
  replace bw := bw.next hb
  replace bg := bg.next hb
  replace o0 := own_keep o0 hb
  replace og := own_keep og hb
  clear hb
  go_wp2_with fail
  refine (toIntS_any A' K.length c' K w18 rfl hn' ((hK.below HB).mono HB.size)).mono ?_
  rintro e w18b ⟨gj, rfl, hb, oj⟩
  have hs_21 := hb.size
  replace HB := HB.trans (hb.mono HB.size)
  replace ba := ba.next hb
  replace bw := bw.next hb
  replace bg := bg.next hb
  replace o0 := own_keep o0 hb
  replace og := own_keep og hb
  replace ot := own_keep ot hb
  clear hb
  go_wp2_with fail
  refine (implTake_any W H _ _ _ L _ _ _ K w18b rfl rfl (Nat.le_refl _) hn' (sqs_of_own ot) (ints_of_own oj) hwf).mono ?_
  rintro e w19 hret
  rw [HZ.out] at hret
  obtain ⟨Ah, ch, rfl, oh, hb⟩ := hret
  have hs_22 := hb.size
  replace HB := HB.trans (hb.mono HB.size)
  replace ba := ba.next hb
  replace bw := bw.next hb
  replace bg := bg.next hb
  replace o0 := own_keep o0 hb
  replace og := own_keep og hb
  replace ot := own_keep ot hb
  replace oj := own_keep oj hb
  clear hb
  clear ot oj
  obtain ⟨pl, p0, p1, p2⟩ := id bw
  go_wp2_with fail
  clear pl p0 p1 p2
  obtain ⟨W20, hW⟩ : ∃ W20, W20 = w19.alloc (.cells #[.int .i64 Z.1, .int .i64 Z.2.1, .slice Ah Z.2.2.1.length ch] 29) := ⟨_, rfl⟩
  have hb : Below w19.heap.size w19 W20 := by rw [hW]; exact (Below.refl _ _).alloc (Nat.le_refl _) _
  have bh : Bx w19.heap.size W20 Z.1 Z.2.1 Ah Z.2.2.1.length ch := by rw [hW]; exact Bx.start _ _ _ _ _ _ _
  have hl_bh := bh.lt
  rw [← hW]
  clear hW
  have hs_23 := hb.size
  replace HB := HB.trans (hb.mono HB.size)
  replace ba := ba.next hb
  replace bw := bw.next hb
  replace bg := bg.next hb
  replace o0 := own_keep o0 hb
  replace og := own_keep og hb
  replace oh := own_keep oh hb
  clear hb
  refine (eqCut_same Z.1 Z.2.1 Ah A0 Z.2.2.1.length ch c0 Z.2.2.1 _ rfl hRn (own_cap oh) (own_cap o0) (sqs_of_own oh) (sqs_of_own o0)).mono ?_
  rintro e w21 ⟨rfl, hb⟩
  have hs_24 := hb.size
  replace HB := HB.trans (hb.mono HB.size)
  replace ba := ba.next hb
  replace bw := bw.next hb
  replace bg := bg.next hb
  replace bh := bh.next hb
  replace o0 := own_keep o0 hb
  replace og := own_keep og hb
  replace oh := own_keep oh hb
  clear hb
  obtain ⟨ql, q0, q1, q2⟩ := id bg
  go_wp2_with fail
  clear ql q0 q1 q2
  refine (heldCut_any Z.1 Z.2.1 Ag Z.2.2.1.length cg 1 _ hRn (by decide) (by decide) (sqs_of_own og)).mono ?_
  rintro e w22 ⟨rfl, hb⟩
  have hs_25 := hb.size
  replace HB := HB.trans (hb.mono HB.size)
  replace ba := ba.next hb
  replace bw := bw.next hb
  replace bg := bg.next hb
  replace bh := bh.next hb
  replace o0 := own_keep o0 hb
  replace og := own_keep og hb
  replace oh := own_keep oh hb
  clear hb
  go_wp2_with fail
  go_ret
  exact ⟨rfl, HB⟩
theorem lawTakePart_over1 (W H : Int) (A : Option Addr) (n c : Nat) (L : List Sq) (A' : Option Addr) (n' c' : Nat) (K : List Int) (w : World) (h : 1048576 < n') :
    Calls Try.prog 3 #[.agg #[.int .i64 W, .int .i64 H, .slice A n c], .slice A' n' c'] w fun e w' => e = .returned (.bool true) ∧ Below w.heap.size w w' := by
  have HB : Below w.heap.size w (w.alloc (.cells #[.int .i64 W, .int .i64 H, .slice A n c] 24)) := (Below.refl _ _).alloc (Nat.le_refl _) _
  have dk : decide ((1048576 : Int) < (n' : Int)) = true := decide_eq_true (by omega)
  have dk2 : (1048576 : Int) < (n' : Int) := by omega
  go_enter Try.func3, Try.ntmps3
  go_wp2_with fail
  go_ret
  exact ⟨rfl, HB⟩
theorem lawTakePart_over2 (W H : Int) (A : Option Addr) (n c : Nat) (L : List Sq) (A' : Option Addr) (n' c' : Nat) (K : List Int) (w : World) (h2 : n' ≤ 1048576) (h : 1048576 < n) (hn : n ≤ 9223372036854775807) :
    Calls Try.prog 3 #[.agg #[.int .i64 W, .int .i64 H, .slice A n c], .slice A' n' c'] w fun e w' => e = .returned (.bool true) ∧ Below w.heap.size w w' := by
  have HB : Below w.heap.size w (w.alloc (.cells #[.int .i64 W, .int .i64 H, .slice A n c] 24)) := (Below.refl _ _).alloc (Nat.le_refl _) _
  have dk : decide ((1048576 : Int) < (n' : Int)) = false := decide_eq_false (by omega)
  have dk2 : ¬ (1048576 : Int) < (n' : Int) := by omega
  go_enter Try.func3, Try.ntmps3
  go_wp2_with fail
  refine (szCutL_over W H A n c 1048576 _ (by decide) (by decide) (by omega) hn).mono ?_
  rintro e w1 ⟨rfl, hb⟩
  go_wp2_with fail
  go_ret
  exact ⟨rfl, HB.trans (hb.mono HB.size)⟩
end Go.Proofs.Ytilneimiedfjnaa
