/- RankOfCut: the program's and the model's. -/
import Derived.Test.YtohajmbgdapnhaaLsA
import Derived.Test.YtohajmbgdapnhaaCtlA
import Derived.Test.YtohajmbgdapnhaaFirstC
set_option linter.all false
namespace Go.Proofs.Ytohajmbgdapnhaa
open Go.RowKit Go.Shelf

/-- How many come before, if it is a cut that may be listed. -/
noncomputable def rankV (W H : Int) (L : List Sq) : Int := if dc (Good W H L) then cntL W H (fun M => dc (F.ltQ M L)) else 0
theorem rankV_yes {W H : Int} {L : List Sq} (h : Good W H L) : rankV W H L = cntL W H (fun M => dc (F.ltQ M L)) := by unfold rankV; rw [if_pos (dc_true h)]
theorem rankV_no {W H : Int} {L : List Sq} (h : ¬ Good W H L) : rankV W H L = 0 := by unfold rankV; rw [if_neg (by rw [dc_false h]; decide)]
set_option maxRecDepth 100000 in
theorem rk_any (W H W' H' : Int) (A A' : Option Addr) (n n' c c' Bc : Nat) (M L : List Sq) (w : World) (hl : M.length = n) (hl' : L.length = n') (hn : n ≤ 1000) (hn' : n' ≤ 1000) (hM : SqsAt w w.heap.size A M) (hL : SqsAt w w.heap.size A' L)
    (h0 : w.cell? ⟨Bc, 0, none⟩ = some (.int .i64 W')) (h1 : w.cell? ⟨Bc, 1, none⟩ = some (.int .i64 H')) (h2 : w.cell? ⟨Bc, 2, none⟩ = some (.slice A' n' c')) :
    Calls Try.prog 65 #[.agg #[.int .i64 W, .int .i64 H, .slice A n c], .pointer (some ⟨Bc, 0, none⟩)] w fun e w' => e = .returned (.bool (dc (F.ltQ M L))) ∧ Below w.heap.size w w' := by
  have hB := World.block_lt_of_cell? _ _ h0
  obtain ⟨w1, hw1⟩ : ∃ w1, w1 = w.alloc (.cells #[.int .i64 W, .int .i64 H, .slice A n c] 30) := ⟨_, rfl⟩
  have hb1 : Below w.heap.size w w1 := by rw [hw1]; exact (Below.refl _ _).alloc (Nat.le_refl _) _
  have x0 : w1.cell? ⟨w.heap.size, 0, none⟩ = some (.int .i64 W) := by rw [hw1]; simp
  have x1 : w1.cell? ⟨w.heap.size, 1, none⟩ = some (.int .i64 H) := by rw [hw1]; simp
  have x2 : w1.cell? ⟨w.heap.size, 2, none⟩ = some (.slice A n c) := by rw [hw1]; simp
  have y0 := (hb1.cell (p := ⟨Bc, 0, none⟩) hB).trans h0
  have y1 := (hb1.cell (p := ⟨Bc, 1, none⟩) hB).trans h1
  have y2 := (hb1.cell (p := ⟨Bc, 2, none⟩) hB).trans h2
  have C := compareCuts_any W H W' H' A A' n n' c c' M L w1 hl hl' (by omega) (by omega) ((hM.below hb1).mono hb1.size) ((hL.below hb1).mono hb1.size)
  have HC := Lib.hid C
  clear C hM hL hl hl' x0 x1 x2 y0 y1 y2
  go_enter Try.func65, Try.ntmps65
  go_wp2_with fail
  rw [← hw1]
  clear hw1
  (with_reducible refine HC.out.mono ?_)
  rintro e w2 ⟨⟨v, rfl, hv⟩, hb2⟩
  have HV := Lib.hid hv
  clear hv h0 h1 h2
  by_cases hlt : v < 0
  · have e := dc_true (HV.out.1 hlt)
    have HE := Lib.hid e
    clear e
    go_wp2_with fail
    go_ret
    exact ⟨by rw [HE.out]; rfl, hb1.trans (hb2.mono hb1.size)⟩
  · have hd : decide (v < 0) = false := by rw [decide_eq_false_iff_not]; exact hlt
    have e := dc_false (fun h => hlt (HV.out.2 h))
    have HE := Lib.hid e
    clear e
    go_wp2_with fail
    go_ret
    exact ⟨by rw [HE.out]; rfl, hb1.trans (hb2.mono hb1.size)⟩
set_option maxRecDepth 100000 in
theorem one_rk (W H : Int) (L : List Sq) (A : Option Addr) (c Bi : Nat) (p : List Sq → Bool) (Bc : Nat) (w : World) (hi : w.cell? ⟨Bi, 0, none⟩ = some (.func (.func 65) #[] #[.pointer (some ⟨Bc, 0, none⟩)]))
    (CP : ∀ V, Below w.heap.size w V → Calls Try.prog 65 #[.agg #[.int .i64 W, .int .i64 H, .slice A L.length c], .pointer (some ⟨Bc, 0, none⟩)] V fun e V' => e = .returned (.bool (p L)) ∧ Below V.heap.size V V') :
    Calls Try.prog 148 #[.agg #[.int .i64 W, .int .i64 H, .slice A L.length c], .pointer (some ⟨Bi, 0, none⟩)] w fun e w' => e = .returned (.int .i64 (if p L then 1 else 0)) ∧ Below w.heap.size w w' := by
  have hBi := World.block_lt_of_cell? _ _ hi
  obtain ⟨w1, hw1⟩ : ∃ w1, w1 = w.alloc (.cells #[.int .i64 W, .int .i64 H, .slice A L.length c] 30) := ⟨_, rfl⟩
  have hb1 : Below w.heap.size w w1 := by rw [hw1]; exact (Below.refl _ _).alloc (Nat.le_refl _) _
  have i1 := (hb1.cell (p := ⟨Bi, 0, none⟩) hBi).trans hi
  have C := fun w' (hb' : Below w1.heap.size w1 w') => CP w' (hb1.trans (hb'.mono hb1.size))
  obtain ⟨v, hv⟩ : ∃ v, p L = v := ⟨_, rfl⟩
  simp only [hv] at C ⊢
  have HC := Lib.hid C
  rw [hw1] at i1
  clear C CP hi hv
  go_enter Try.func148, Try.ntmps148
  go_wp2_with fail
  rw [← hw1]
  clear hw1
  refine (HC.out _ (by first | exact Below.refl _ _ | exact (Below.refl _ _).drew | exact below_drewN (Below.refl _ _) _)).mono ?_
  rintro e w2 ⟨rfl, hb2⟩
  have hB2 := hb1.trans (hb2.mono hb1.size)
  clear i1
  cases v
  · go_wp2_with fail
    go_ret
    exact ⟨rfl, hB2⟩
  · go_wp2_with fail
    go_ret
    exact ⟨rfl, hB2⟩
set_option maxRecDepth 100000 in
theorem countL_rk (W H : Nat) (hok : okL W H = true) (p : List Sq → Bool) (Bc : Nat) (w : World)
    (CP : ∀ V L A c, Below w.heap.size w V → L ∈ allF W H → L.length ≤ c → SqsAt V V.heap.size A L → Calls Try.prog 65 #[.agg #[.int .i64 W, .int .i64 H, .slice A L.length c], .pointer (some ⟨Bc, 0, none⟩)] V fun e V' => e = .returned (.bool (p L)) ∧ Below V.heap.size V V') :
    Calls Try.prog 64 #[.int .i64 W, .int .i64 H, .func (.func 65) #[] #[.pointer (some ⟨Bc, 0, none⟩)]] w fun e w' => e = .returned (.tuple #[.int .i64 (cntL W H p), .bool true]) ∧ Below w.heap.size w w' := by
  have hh := okL_nat.1 hok
  obtain ⟨w1, hw1⟩ : ∃ w1, w1 = (w.alloc (.cells #[.int .i64 W] 3)).alloc (.cells #[.int .i64 H] 3) := ⟨_, rfl⟩
  have hz1 : w1.heap.size = w.heap.size + 2 := by rw [hw1]; simp
  have hb1 : Below w.heap.size w w1 := by rw [hw1]; exact ((Below.refl _ _).alloc (Nat.le_refl _) _).alloc (by simp) _
  have cw : w1.cell? ⟨w.heap.size, 0, none⟩ = some (.int .i64 W) := by rw [hw1, World.cell?_alloc_lt _ _ _ (by simp)]; simp [go_sem]
  have ch : w1.cell? ⟨w.heap.size + 1, 0, none⟩ = some (.int .i64 H) := by rw [hw1]; simp [go_sem]
  obtain ⟨w2, hw2⟩ : ∃ w2, w2 = w1.alloc (.cells #[.func (.func 65) #[] #[.pointer (some ⟨Bc, 0, none⟩)]] 67) := ⟨_, rfl⟩
  have hb2 : Below w1.heap.size w1 w2 := by rw [hw2]; exact (Below.refl _ _).alloc (Nat.le_refl _) _
  have hB2 := hb1.trans (hb2.mono hb1.size)
  have q : ∀ {b : Nat} {v : Value}, w1.cell? ⟨b, 0, none⟩ = some v → w2.cell? ⟨b, 0, none⟩ = some v := fun h => (hb2.cell (p := ⟨_, 0, none⟩) (World.block_lt_of_cell? _ _ h)).trans h
  have i1 : w2.cell? ⟨w1.heap.size, 0, none⟩ = some (.func (.func 65) #[] #[.pointer (some ⟨Bc, 0, none⟩)]) := by rw [hw2]; simp [go_sem]
  have CS := sumC_p W H (by omega) (by omega) w.heap.size (w.heap.size + 1) w1.heap.size (fun L => if p L then 1 else 0) w2 (q cw) (q ch) (fun V L A c hb hL hcap hsq =>
    one_rk W H L A c w1.heap.size p Bc V ((hb.cell (p := ⟨w1.heap.size, 0, none⟩) (World.block_lt_of_cell? _ _ i1)).trans i1) (fun V' hb' => CP V' L A c (hB2.trans ((hb.trans (hb'.mono hb.size)).mono hB2.size)) hL hcap ((hsq.below hb').mono hb'.size)))
  rw [wtell_is] at CS
  have hlen : ((allF W H).filter p).length ≤ 65536 := Nat.le_trans (List.length_filter_le _ _) (allF_few hok)
  rw [w_in (by omega) (by omega)] at CS
  have HC := Lib.hid CS
  have C0 := listed_yes W H hok w
  rw [← hw1] at C0
  rw [cntL_yes hok]
  have CC : Calls Try.prog 115 #[.func (.func 160) #[] #[.pointer (some ⟨w.heap.size, 0, none⟩), .pointer (some ⟨w.heap.size + 1, 0, none⟩)], .func (.func 65) #[] #[.pointer (some ⟨Bc, 0, none⟩)]] w1 fun e w' => e = .returned (.int .i64 (((allF W H).filter p).length : Nat)) ∧ Below w1.heap.size w1 w' := by
    clear CS q i1 cw ch CP C0 hlen hok hw1 hz1
    go_enter Try.func115, Try.ntmps115
    go_wp2_with fail
    rw [← hw2]
    refine HC.out.mono ?_
    rintro e w3 ⟨rfl, hb3⟩
    clear hw2
    go_wp2_with fail
    go_ret
    exact ⟨rfl, hb2.trans (hb3.mono hb2.size)⟩
  have HCC := Lib.hid CC
  have HC0 := Lib.hid C0
  clear CS q i1 cw ch CP C0 hlen hok HC CC hw2 hw1
  go_enter Try.func64, Try.ntmps64
  go_wp2_with fail
  refine HC0.out.mono ?_
  rintro e w3 ⟨rfl, rfl⟩
  go_wp2_with fail
  refine HCC.out.mono ?_
  rintro e w4 ⟨rfl, hb4⟩
  go_wp2_with fail
  go_ret2
  exact ⟨rfl, hb1.trans (hb4.mono hb1.size)⟩

def RetRk (w : World) (W H : Int) (L : List Sq) (e : Ending) (w' : World) : Prop := e = .returned (.tuple #[.int .i64 (rankV W H L), .bool (dc (Good W H L) && okL W H)]) ∧ Below w.heap.size w w'
set_option maxRecDepth 100000 in
set_option maxHeartbeats 2000000 in
theorem implRank_any (W H : Int) (A : Option Addr) (n c : Nat) (L : List Sq) (w : World) (hl : L.length = n) (hc : n ≤ c) (hL : SqsAt w w.heap.size A L) (hwf : ∀ s ∈ L, wfS s) :
    Calls Try.prog 28 #[.agg #[.int .i64 W, .int .i64 H, .slice A n c]] w (RetRk w W H L) := by
  subst hl
  obtain ⟨w1, hw1⟩ : ∃ w1, w1 = w.alloc (.cells #[.int .i64 W, .int .i64 H, .slice A L.length c] 30) := ⟨_, rfl⟩
  have hb1 : Below w.heap.size w w1 := by rw [hw1]; exact (Below.refl _ _).alloc (Nat.le_refl _) _
  have hz : w.heap.size < w1.heap.size := by rw [hw1]; simp
  have x0 : w1.cell? ⟨w.heap.size, 0, none⟩ = some (.int .i64 W) := by rw [hw1]; simp
  have x1 : w1.cell? ⟨w.heap.size, 1, none⟩ = some (.int .i64 H) := by rw [hw1]; simp
  have x2 : w1.cell? ⟨w.heap.size, 2, none⟩ = some (.slice A L.length c) := by rw [hw1]; simp
  have hL1 := (hL.below hb1).mono hb1.size
  have C := isCut_good W H A L.length c L w1 rfl hc hL1 hwf
  have HC := Lib.hid C
  have HL1 := Lib.hid hL1
  clear C hL hwf hL1
  by_cases hG : Good W H L
  · have hn := hG.2.2.1.2
    have HG := Lib.hid hG
    unfold RetRk
    rw [rankV_yes hG, dc_true hG, Bool.true_and]
    cases hok : okL W H with
    | false =>
      rw [cntL_no hok]
      have HOK := Lib.hid hok
      clear hG hok
      go_enter Try.func28, Try.ntmps28
      go_wp2_with fail
      rw [← hw1]
      clear hw1
      go_wp2_with fail
      (with_reducible refine (callB_yes HC.out HG.out).mono ?_)
      rintro e w2 ⟨rfl, hb2⟩
      have x0 := (hb2.cell (p := ⟨w.heap.size, 0, none⟩) hz).trans x0
      have x1 := (hb2.cell (p := ⟨w.heap.size, 1, none⟩) hz).trans x1
      go_wp2_with fail
      (with_reducible refine (countListed_no W H HOK.out _ _ _ w2).mono ?_)
      rintro e w3 ⟨rfl, hb3⟩
      go_wp2_with fail
      go_ret2
      exact ⟨rfl, hb1.trans ((hb2.trans (hb3.mono hb2.size)).mono hb1.size)⟩
    | true =>
      obtain ⟨a, b, rfl, rfl⟩ := okL_ex hok
      have CC : ∀ w2, Below w1.heap.size w1 w2 → Calls Try.prog 64 #[.int .i64 a, .int .i64 b, .func (.func 65) #[] #[.pointer (some ⟨w.heap.size, 0, none⟩)]] w2 fun e w' => e = .returned (.tuple #[.int .i64 (cntL a b (fun M => dc (F.ltQ M L))), .bool true]) ∧ Below w2.heap.size w2 w' := fun w2 hb2 =>
        countL_rk a b hok (fun M => dc (F.ltQ M L)) w.heap.size w2 (fun V M A' c' hb hM hc' hsq => by
          have hgm := allF_good hok M hM
          have hbV : Below w1.heap.size w1 V := hb2.trans (hb.mono hb2.size)
          exact rk_any a b a b A' A M.length L.length c' c w.heap.size M L V rfl rfl (by have := hgm.2.2.1.2; omega) (by omega) hsq ((HL1.out.below hbV).mono hbV.size) ((hbV.cell (p := ⟨w.heap.size, 0, none⟩) hz).trans x0) ((hbV.cell (p := ⟨w.heap.size, 1, none⟩) hz).trans x1) ((hbV.cell (p := ⟨w.heap.size, 2, none⟩) hz).trans x2))
      obtain ⟨v, hv⟩ : ∃ v, cntL a b (fun M => dc (F.ltQ M L)) = v := ⟨_, rfl⟩
      rw [hv] at CC ⊢
      have HCC := Lib.hid CC
      clear hG hok CC hv
      go_enter Try.func28, Try.ntmps28
      go_wp2_with fail
      rw [← hw1]
      clear hw1
      go_wp2_with fail
      (with_reducible refine (callB_yes HC.out HG.out).mono ?_)
      rintro e w2 ⟨rfl, hb2⟩
      have x0 := (hb2.cell (p := ⟨w.heap.size, 0, none⟩) hz).trans x0
      have x1 := (hb2.cell (p := ⟨w.heap.size, 1, none⟩) hz).trans x1
      go_wp2_with fail
      (with_reducible refine (HCC.out w2 hb2).mono ?_)
      rintro e w3 ⟨rfl, hb3⟩
      go_wp2_with fail
      go_ret2
      exact ⟨rfl, hb1.trans ((hb2.trans (hb3.mono hb2.size)).mono hb1.size)⟩
  · unfold RetRk
    rw [rankV_no hG, dc_false hG, Bool.false_and]
    have HG := Lib.hid hG
    clear hG
    go_enter Try.func28, Try.ntmps28
    go_wp2_with fail
    rw [← hw1]
    clear hw1
    go_wp2_with fail
    (with_reducible refine (callB_no HC.out HG.out).mono ?_)
    rintro e w2 ⟨rfl, hb2⟩
    go_wp2_with fail
    go_ret2
    exact ⟨rfl, hb1.trans (hb2.mono hb1.size)⟩
set_option maxRecDepth 100000 in
set_option maxHeartbeats 4000000 in
theorem specRank_any (W H : Int) (A : Option Addr) (n c : Nat) (L : List Sq) (w : World) (hl : L.length = n) (hc : n ≤ c) (hL : SqsAt w w.heap.size A L) :
    Calls Try.prog 26 #[.agg #[.int .i64 W, .int .i64 H, .slice A n c]] w (RetRk w W H L) := by
  subst hl
  obtain ⟨w1, hw1⟩ : ∃ w1, w1 = w.alloc (.cells #[.int .i64 W, .int .i64 H, .slice A L.length c] 30) := ⟨_, rfl⟩
  have hb1 : Below w.heap.size w w1 := by rw [hw1]; exact (Below.refl _ _).alloc (Nat.le_refl _) _
  have hz : w.heap.size < w1.heap.size := by rw [hw1]; simp
  have x0 : w1.cell? ⟨w.heap.size, 0, none⟩ = some (.int .i64 W) := by rw [hw1]; simp
  have x1 : w1.cell? ⟨w.heap.size, 1, none⟩ = some (.int .i64 H) := by rw [hw1]; simp
  have x2 : w1.cell? ⟨w.heap.size, 2, none⟩ = some (.slice A L.length c) := by rw [hw1]; simp
  have hL1 := (hL.below hb1).mono hb1.size
  have C := cuGood_any W H A L.length c L w1 rfl hc hL1
  have HC := Lib.hid C
  have HL1 := Lib.hid hL1
  clear C hL hL1
  by_cases hG : Good W H L
  · have hnL := hG.2.2.1.2
    have HGL := Lib.hid hG
    unfold RetRk
    rw [rankV_yes hG, dc_true hG, Bool.true_and]
    have hs := fun w => ctFew_any W H w
    cases hok : okL W H with
    | false =>
      rw [cntL_no hok]
      simp only [hok] at hs
      have HS := Lib.hid hs
      clear hG hok hs
      go_enter Try.func26, Try.ntmps26
      go_wp2_with fail
      rw [← hw1]
      clear hw1
      go_wp2_with fail
      (with_reducible refine (callB_yes HC.out HGL.out).mono ?_)
      rintro e w2 ⟨rfl, hb2⟩
      have x0 := (hb2.cell (p := ⟨w.heap.size, 0, none⟩) hz).trans x0
      have x1 := (hb2.cell (p := ⟨w.heap.size, 1, none⟩) hz).trans x1
      go_wp2_with fail
      (with_reducible refine (HS.out _).mono ?_)
      rintro e w' ⟨rfl, rfl⟩
      go_wp2_with fail
      go_ret2
      exact ⟨rfl, hb1.trans (hb2.mono hb1.size)⟩
    | true =>
      obtain ⟨a, b, rfl, rfl⟩ := okL_ex hok
      have hh := okL_nat.1 hok
      simp only [hok] at hs
      rw [cntL_yes hok]
      have hgood := allF_good hok
      have hfew := allF_few hok
      have C := fun w => ctAll_any a b (by omega) (by omega) (by omega) w
      simp only [show fills 6 b (a * b) (List.replicate a 0) = allF a b from rfl] at C
      obtain ⟨R, hR⟩ : ∃ R, allF a b = R := ⟨_, rfl⟩
      simp only [hR] at C hgood hfew ⊢
      have HG := Lib.hid hgood
      have HF := Lib.hid hfew
      have HS := Lib.hid hs
      have HCA := Lib.hid C
      clear hG hok hs hR hgood hfew C
      go_enter Try.func26, Try.ntmps26
      go_wp2_with fail
      rw [← hw1]
      clear hw1
      go_wp2_with fail
      (with_reducible refine (callB_yes HC.out HGL.out).mono ?_)
      rintro e w2 ⟨rfl, hbc⟩
      have x0 := (hbc.cell (p := ⟨w.heap.size, 0, none⟩) hz).trans x0
      have x1 := (hbc.cell (p := ⟨w.heap.size, 1, none⟩) hz).trans x1
      have x2 := (hbc.cell (p := ⟨w.heap.size, 2, none⟩) hz).trans x2
      have hLc : SqsAt w2 w2.heap.size A L := (HL1.out.below hbc).mono hbc.size
      have HLC := Lib.hid hLc
      have hzc : w.heap.size < w2.heap.size := by have := hbc.size; omega
      have hBc : Below w.heap.size w w2 := hb1.trans (hbc.mono hb1.size)
      obtain ⟨wc, rfl⟩ : ∃ wc : World, wc = w2 := ⟨_, rfl⟩
      clear hLc hbc hb1
      go_wp2_with fail
      (with_reducible refine (HS.out _).mono ?_)
      rintro e w' ⟨rfl, rfl⟩
      go_wp2_with fail
      (with_reducible refine (HCA.out _).mono ?_)
      rintro e w2 ⟨A9, c9, Cs, rfl, hm, hCL, hb2⟩
      have hCl : Cs.length = R.length := by rw [← hm, List.length_map]
      have hCs : Cs.length ≤ 65536 := by have := HF.out; omega
      have HCC := Lib.hid hCl
      have HM := Lib.hid hm
      have HCL := Lib.hid hCL
      have HB2 := Lib.hid hb2
      clear hm hCL hb2 hCl
      go_wp2_with fail
      go_loopw [4, 24] (fun nv iv wr => ∃ k : Nat, k ≤ Cs.length ∧ iv = .int .i64 (k : Int) ∧ nv = .int .i64 (cntT (fun M => dc (F.ltQ M L)) R k : Nat) ∧ Below w2.heap.size w2 wr) (fun _ iv _ => Cs.length - (intOf iv).toNat)
      case atStart => exact ⟨0, Nat.zero_le _, rfl, by simp [cntT], Below.refl _ _⟩
      case round =>
        obtain ⟨k, hk, rfl, rfl, hbr⟩ := hrel
        have hbR : Below wc.heap.size wc wr := HB2.out.trans (hbr.mono HB2.out.size)
        have hzr : w.heap.size < wr.heap.size := Nat.lt_of_lt_of_le hzc hbR.size
        have r0 := (hbR.cell (p := ⟨w.heap.size, 0, none⟩) hzc).trans x0
        have r1 := (hbR.cell (p := ⟨w.heap.size, 1, none⟩) hzc).trans x1
        have r2 := (hbR.cell (p := ⟨w.heap.size, 2, none⟩) hzc).trans x2
        clear hbR
        by_cases hlt : k < Cs.length
        · obtain ⟨x, hx⟩ : ∃ x, Cs[k]? = some x := ⟨_, List.getElem?_eq_getElem hlt⟩
          have hxm : x ∈ Cs := List.mem_of_getElem? hx
          obtain ⟨g9, rfl⟩ := own_form HCL.out.own (show 0 < Cs.length by omega)
          have hg9 := (own_lt HCL.out.own).2
          obtain ⟨d0, d1, d2⟩ := HCL.out.at hx
          have c0 := (hbr.cell (p := ⟨g9, k * 3, none⟩) hg9).trans d0
          have c1 := (hbr.cell (p := ⟨g9, k * 3 + 1, none⟩) hg9).trans d1
          have c2 := (hbr.cell (p := ⟨g9, k * 3 + 2, none⟩) hg9).trans d2
          have hxs := HCL.out.sq x hxm
          have hxc := own_cap hxs
          have hxq : SqsAt wr wr.heap.size x.2.1 x.1 := ((sqs_of_own hxs).below hbr).mono hbr.size
          have hRk : R[k]? = some x.1 := by rw [← HM.out, List.getElem?_map, hx]; rfl
          have hG := HG.out x.1 (List.mem_of_getElem? hRk)
          have hn := hG.2.2.1
          have HR := Lib.hid hRk
          have k0 : (0 : Int) ≤ (k : Int) := by omega
          have k1 : (k : Int) < (Cs.length : Int) := by omega
          have hct : (cntT (fun M => dc (F.ltQ M L)) R k : Int) ≤ 65536 := by have := cntT_le (fun M => dc (F.ltQ M L)) R k; have := HF.out; omega
          have hct0 : (0 : Int) ≤ (cntT (fun M => dc (F.ltQ M L)) R k : Int) := by omega
          obtain ⟨W1, hW1⟩ : ∃ W1, W1 = wr.alloc (.cells #[.int .i64 a, .int .i64 b, .slice x.2.1 x.1.length x.2.2] 30) := ⟨_, rfl⟩
          have hb1 : Below wr.heap.size wr W1 := by rw [hW1]; exact (Below.refl _ _).alloc (Nat.le_refl _) _
          have f0 : W1.cell? ⟨wr.heap.size, 0, none⟩ = some (.int .i64 a) := by rw [hW1]; simp
          have f1 : W1.cell? ⟨wr.heap.size, 1, none⟩ = some (.int .i64 b) := by rw [hW1]; simp
          have f2 : W1.cell? ⟨wr.heap.size, 2, none⟩ = some (.slice x.2.1 x.1.length x.2.2) := by rw [hW1]; simp
          have hzz1 : wr.heap.size < W1.heap.size := by rw [hW1]; simp
          have hxq1 : SqsAt W1 W1.heap.size x.2.1 x.1 := (hxq.below hb1).mono hb1.size
          have hB1 : Below w2.heap.size w2 W1 := hbr.trans (hb1.mono hbr.size)
          have HX := Lib.hid hx
          clear d0 d1 d2 hRk hx hxs hxq
          have hbW : Below wc.heap.size wc W1 := HB2.out.trans (hB1.mono HB2.out.size)
          go_wp2_with fail
          rw [← hW1]
          clear hW1
          have CC := cuFirst_any a b a b x.2.1 A x.1.length L.length x.2.2 c x.1 L W1 rfl rfl (by omega) (by omega) hxq1 ((HLC.out.below hbW).mono hbW.size)
          have HCF := Lib.hid CC
          clear hbW CC hG
          by_cases hlt : F.ltQ x.1 L
          · have hp : (fun M => dc (F.ltQ M L)) x.1 = true := dc_true hlt
            have HP := Lib.hid hp
            have HLT := Lib.hid hlt
            clear hp hlt
            (with_reducible refine (callB_yes HCF.out HLT.out).mono ?_)
            rintro e w3 ⟨rfl, hb3⟩
            have hbe : Below w2.heap.size w2 w3 := hB1.trans (hb3.mono hB1.size)
            have HBE := Lib.hid hbe
            clear r0 r1 r2 f0 f1 f2 hb3 hbe
            go_wp2_with fail
            go_roundw
            case rel => exact ⟨k + 1, by omega, by go_num, by rw [cntT_yes HR.out HP.out]; go_num, HBE.out⟩
            case measure => simp [intOf]; omega
          · have hp : (fun M => dc (F.ltQ M L)) x.1 = false := dc_false hlt
            have HP := Lib.hid hp
            have HLT := Lib.hid hlt
            clear hp hlt
            (with_reducible refine (callB_no HCF.out HLT.out).mono ?_)
            rintro e w3 ⟨rfl, hb3⟩
            have hbe : Below w2.heap.size w2 w3 := hB1.trans (hb3.mono hB1.size)
            have HBE := Lib.hid hbe
            clear r0 r1 r2 f0 f1 f2 hb3 hbe
            go_wp2_with fail
            go_roundw
            case rel => exact ⟨k + 1, by omega, by go_num, by rw [cntT_no HR.out HP.out], HBE.out⟩
            case measure => simp [intOf]; omega
        · obtain rfl : k = Cs.length := by omega
          have e : (cntT (fun M => dc (F.ltQ M L)) R Cs.length : Int) = ((R.filter (fun M => dc (F.ltQ M L))).length : Nat) := by rw [HCC.out, cntT_all]
          have HE := Lib.hid e
          clear e
          go_wp2_with fail
          go_ret2
          exact ⟨by rw [HE.out]; rfl, hBc.trans ((HB2.out.trans (hbr.mono HB2.out.size)).mono hBc.size)⟩
  · unfold RetRk
    rw [rankV_no hG, dc_false hG, Bool.false_and]
    have HG := Lib.hid hG
    clear hG
    go_enter Try.func26, Try.ntmps26
    go_wp2_with fail
    rw [← hw1]
    clear hw1
    go_wp2_with fail
    (with_reducible refine (callB_no HC.out HG.out).mono ?_)
    rintro e w2 ⟨rfl, hb2⟩
    go_wp2_with fail
    go_ret2
    exact ⟨rfl, hb1.trans (hb2.mono hb1.size)⟩
end Go.Proofs.Ytohajmbgdapnhaa
