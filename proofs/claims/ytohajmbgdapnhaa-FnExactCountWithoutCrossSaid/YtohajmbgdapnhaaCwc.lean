/- CountWithoutCross: the program's and the model's. -/
import Derived.Test.YtohajmbgdapnhaaLsA
import Derived.Test.YtohajmbgdapnhaaCtlA
import Derived.Test.YtohajmbgdapnhaaCrossI
set_option linter.all false
namespace Go.Proofs.Ytohajmbgdapnhaa
open Go.RowKit Go.Shelf

/-- No corner of four squares. -/
def noX (L : List Sq) : Bool := (crossL L L.length).length == 0
theorem crossL_count (L : List Sq) (k : Nat) (s : Sq) (h : L[k]? = some s) : (crossL L (k + 1)).length = (crossL L k).length + (if corN L s.x s.y L.length = 4 then 1 else 0) := by
  rw [crossL_succ L k s h, List.length_append]
  by_cases h4 : corN L s.x s.y L.length = 4
  · rw [if_pos (by simpa using h4), if_pos h4]; rfl
  · rw [if_neg (by simpa using h4), if_neg h4]; rfl
theorem wc_any (W H : Int) (A : Option Addr) (n c : Nat) (L : List Sq) (w : World) (hl : L.length = n) (hc : n ≤ c) (hL : SqsAt w w.heap.size A L) (hG : Good W H L) :
    Calls Try.prog 82 #[.agg #[.int .i64 W, .int .i64 H, .slice A n c]] w fun e w' => e = .returned (.bool (noX L)) ∧ Below w.heap.size w w' := by
  obtain ⟨w1, hw1⟩ : ∃ w1, w1 = w.alloc (.cells #[.int .i64 W, .int .i64 H, .slice A n c] 30) := ⟨_, rfl⟩
  have hb1 : Below w.heap.size w w1 := by rw [hw1]; exact (Below.refl _ _).alloc (Nat.le_refl _) _
  have C := implCross_any W H A n c L w1 hl hc ((hL.below hb1).mono hb1.size) (wf_good hG)
  rw [ifGood_yes hG, dc_true hG] at C
  have hlen := crossL_len L L.length
  have h30 := hG.2.2.1.2
  obtain ⟨R, hR⟩ : ∃ R, crossL L L.length = R := ⟨_, rfl⟩
  unfold noX
  rw [hR] at C hlen ⊢
  have HC := Lib.hid C
  clear C hL hG hR
  go_enter Try.func82, Try.ntmps82
  go_wp2_with fail
  rw [← hw1]
  refine HC.out.mono ?_
  rintro e w2 ⟨A2, c2, R2, rfl, hM, hS, hb2⟩
  clear hw1 hM hS
  obtain ⟨m, hm⟩ : ∃ m, R.length = m := ⟨_, rfl⟩
  rw [hm] at hlen ⊢
  have HMM := Lib.hid hm
  clear hm
  by_cases h0 : m = 0
  · have e1 : ((m : Int) == 0) = true := by first | omega | (simp; done) | (simp; omega)
    have e2 : (m == 0) = true := by simpa using h0
    go_wp2_with fail
    go_ret
    exact ⟨by rw [HMM.out, e2]; rfl, hb1.trans (hb2.mono hb1.size)⟩
  · have e1 : ((m : Int) == 0) = false := by first | omega | (simp; done) | (simp; omega)
    have e2 : (m == 0) = false := by simpa using h0
    go_wp2_with fail
    go_ret
    exact ⟨by rw [HMM.out, e2]; rfl, hb1.trans (hb2.mono hb1.size)⟩
set_option maxRecDepth 100000 in
theorem one_wc (W H : Int) (L : List Sq) (A : Option Addr) (c Bi : Nat) (p : List Sq → Bool) (w : World) (hi : w.cell? ⟨Bi, 0, none⟩ = some (.func (.func 82) #[] #[]))
    (CP : ∀ V, Below w.heap.size w V → Calls Try.prog 82 #[.agg #[.int .i64 W, .int .i64 H, .slice A L.length c]] V fun e V' => e = .returned (.bool (p L)) ∧ Below V.heap.size V V') :
    Calls Try.prog 148 #[.agg #[.int .i64 W, .int .i64 H, .slice A L.length c], .pointer (some ⟨Bi, 0, none⟩)] w fun e w' => e = .returned (.int .i64 (if p L then 1 else 0)) ∧ Below w.heap.size w w' := by
  have hBi := World.block_lt_of_cell? _ _ hi
  obtain ⟨w1, hw1⟩ : ∃ w1, w1 = w.alloc (.cells #[.int .i64 W, .int .i64 H, .slice A L.length c] 30) := ⟨_, rfl⟩
  have hb1 : Below w.heap.size w w1 := by rw [hw1]; exact (Below.refl _ _).alloc (Nat.le_refl _) _
  have i1 := (hb1.cell (p := ⟨Bi, 0, none⟩) hBi).trans hi
  have C := fun w' (hb' : Below w1.heap.size w1 w') => CP w' (hb1.trans (hb'.mono hb1.size))
  obtain ⟨v, hv⟩ : ∃ v, p L = v := ⟨_, rfl⟩
  simp only [hv] at C ⊢
  have HC := Lib.hid C
  rw [hw1] at i1
  clear C CP hi hv
  go_enter Try.func148, Try.ntmps148
  go_wp2_with fail
  rw [← hw1]
  clear hw1
  refine (HC.out _ (by first | exact Below.refl _ _ | exact (Below.refl _ _).drew | exact below_drewN (Below.refl _ _) _)).mono ?_
  rintro e w2 ⟨rfl, hb2⟩
  have hB2 := hb1.trans (hb2.mono hb1.size)
  clear i1
  cases v
  · go_wp2_with fail
    go_ret
    exact ⟨rfl, hB2⟩
  · go_wp2_with fail
    go_ret
    exact ⟨rfl, hB2⟩
set_option maxRecDepth 100000 in
theorem countL_wc (W H : Nat) (hok : okL W H = true) (p : List Sq → Bool) (w : World)
    (CP : ∀ V L A c, Below w.heap.size w V → L ∈ allF W H → L.length ≤ c → SqsAt V V.heap.size A L → Calls Try.prog 82 #[.agg #[.int .i64 W, .int .i64 H, .slice A L.length c]] V fun e V' => e = .returned (.bool (p L)) ∧ Below V.heap.size V V') :
    Calls Try.prog 64 #[.int .i64 W, .int .i64 H, .func (.func 82) #[] #[]] w fun e w' => e = .returned (.tuple #[.int .i64 (cntL W H p), .bool true]) ∧ Below w.heap.size w w' := by
  have hh := okL_nat.1 hok
  obtain ⟨w1, hw1⟩ : ∃ w1, w1 = (w.alloc (.cells #[.int .i64 W] 3)).alloc (.cells #[.int .i64 H] 3) := ⟨_, rfl⟩
  have hz1 : w1.heap.size = w.heap.size + 2 := by rw [hw1]; simp
  have hb1 : Below w.heap.size w w1 := by rw [hw1]; exact ((Below.refl _ _).alloc (Nat.le_refl _) _).alloc (by simp) _
  have cw : w1.cell? ⟨w.heap.size, 0, none⟩ = some (.int .i64 W) := by rw [hw1, World.cell?_alloc_lt _ _ _ (by simp)]; simp [go_sem]
  have ch : w1.cell? ⟨w.heap.size + 1, 0, none⟩ = some (.int .i64 H) := by rw [hw1]; simp [go_sem]
  obtain ⟨w2, hw2⟩ : ∃ w2, w2 = w1.alloc (.cells #[.func (.func 82) #[] #[]] 67) := ⟨_, rfl⟩
  have hb2 : Below w1.heap.size w1 w2 := by rw [hw2]; exact (Below.refl _ _).alloc (Nat.le_refl _) _
  have hB2 := hb1.trans (hb2.mono hb1.size)
  have q : ∀ {b : Nat} {v : Value}, w1.cell? ⟨b, 0, none⟩ = some v → w2.cell? ⟨b, 0, none⟩ = some v := fun h => (hb2.cell (p := ⟨_, 0, none⟩) (World.block_lt_of_cell? _ _ h)).trans h
  have i1 : w2.cell? ⟨w1.heap.size, 0, none⟩ = some (.func (.func 82) #[] #[]) := by rw [hw2]; simp [go_sem]
  have CS := sumC_p W H (by omega) (by omega) w.heap.size (w.heap.size + 1) w1.heap.size (fun L => if p L then 1 else 0) w2 (q cw) (q ch) (fun V L A c hb hL hcap hsq =>
    one_wc W H L A c w1.heap.size p V ((hb.cell (p := ⟨w1.heap.size, 0, none⟩) (World.block_lt_of_cell? _ _ i1)).trans i1) (fun V' hb' => CP V' L A c (hB2.trans ((hb.trans (hb'.mono hb.size)).mono hB2.size)) hL hcap ((hsq.below hb').mono hb'.size)))
  rw [wtell_is] at CS
  have hlen : ((allF W H).filter p).length ≤ 65536 := Nat.le_trans (List.length_filter_le _ _) (allF_few hok)
  rw [w_in (by omega) (by omega)] at CS
  have HC := Lib.hid CS
  have C0 := listed_yes W H hok w
  rw [← hw1] at C0
  rw [cntL_yes hok]
  have CC : Calls Try.prog 115 #[.func (.func 160) #[] #[.pointer (some ⟨w.heap.size, 0, none⟩), .pointer (some ⟨w.heap.size + 1, 0, none⟩)], .func (.func 82) #[] #[]] w1 fun e w' => e = .returned (.int .i64 (((allF W H).filter p).length : Nat)) ∧ Below w1.heap.size w1 w' := by
    clear CS q i1 cw ch CP C0 hlen hok hw1 hz1
    go_enter Try.func115, Try.ntmps115
    go_wp2_with fail
    rw [← hw2]
    refine HC.out.mono ?_
    rintro e w3 ⟨rfl, hb3⟩
    clear hw2
    go_wp2_with fail
    go_ret
    exact ⟨rfl, hb2.trans (hb3.mono hb2.size)⟩
  have HCC := Lib.hid CC
  have HC0 := Lib.hid C0
  clear CS q i1 cw ch CP C0 hlen hok HC CC hw2 hw1
  go_enter Try.func64, Try.ntmps64
  go_wp2_with fail
  refine HC0.out.mono ?_
  rintro e w3 ⟨rfl, rfl⟩
  go_wp2_with fail
  refine HCC.out.mono ?_
  rintro e w4 ⟨rfl, hb4⟩
  go_wp2_with fail
  go_ret2
  exact ⟨rfl, hb1.trans (hb4.mono hb1.size)⟩
set_option maxRecDepth 100000 in
theorem impl_wc (W H : Int) (w : World) : Calls Try.prog 36 #[.int .i64 W, .int .i64 H] w fun e w' => e = .returned (.tuple #[.int .i64 (cntL W H (fun L => noX L)), .bool (okL W H)]) ∧ Below w.heap.size w w' := by
  cases hok : okL W H with
  | false =>
    rw [cntL_no hok]
    have C := countListed_no W H hok (.func 82) #[] #[] w
    clear hok
    go_enter Try.func36, Try.ntmps36
    go_wp2_with fail
    refine C.mono ?_
    rintro e w2 ⟨rfl, hb2⟩
    go_wp2_with fail
    go_ret2
    exact ⟨rfl, hb2⟩
  | true =>
    obtain ⟨a, b, rfl, rfl⟩ := okL_ex hok
    have C := countL_wc a b hok (fun L => noX L) w (fun V L A c hb hL hc hsq => wc_any a b A L.length c L V rfl hc hsq (allF_good hok L hL))
    obtain ⟨v, hv⟩ : ∃ v, cntL a b (fun L => noX L) = v := ⟨_, rfl⟩
    rw [hv] at C ⊢
    have HC := Lib.hid C
    clear hok hv C
    go_enter Try.func36, Try.ntmps36
    go_wp2_with fail
    refine HC.out.mono ?_
    rintro e w2 ⟨rfl, hb2⟩
    go_wp2_with fail
    go_ret2
    exact ⟨rfl, hb2⟩
set_option maxRecDepth 100000 in
set_option maxHeartbeats 4000000 in
theorem spec_wc (W H : Int) (w : World) : Calls Try.prog 35 #[.int .i64 W, .int .i64 H] w fun e w' => e = .returned (.tuple #[.int .i64 (cntL W H (fun L => noX L)), .bool (okL W H)]) ∧ Below w.heap.size w w' := by
  have hs := ctFew_any W H w
  cases hok : okL W H with
  | false =>
    rw [cntL_no hok]
    rw [hok] at hs
    go_enter Try.func35, Try.ntmps35
    go_wp2_with fail
    refine hs.mono ?_
    rintro e w' ⟨rfl, rfl⟩
    go_wp2_with fail
    go_ret2
    exact ⟨rfl, Below.refl _ _⟩
  | true =>
    obtain ⟨a, b, rfl, rfl⟩ := okL_ex hok
    have hh := okL_nat.1 hok
    rw [hok] at hs
    rw [cntL_yes hok]
    have hgood := allF_good hok
    have hfew := allF_few hok
    have C := ctAll_any a b (by omega) (by omega) (by omega) w
    rw [show fills 6 b (a * b) (List.replicate a 0) = allF a b from rfl] at C
    obtain ⟨R, hR⟩ : ∃ R, allF a b = R := ⟨_, rfl⟩
    rw [hR] at C hgood hfew ⊢
    have HG := Lib.hid hgood
    have HF := Lib.hid hfew
    clear hok hR hgood hfew
    go_enter Try.func35, Try.ntmps35
    go_wp2_with fail
    refine hs.mono ?_
    rintro e w' ⟨rfl, rfl⟩
    go_wp2_with fail
    refine C.mono ?_
    rintro e w2 ⟨A9, c9, Cs, rfl, hm, hCL, hb2⟩
    have hCl : Cs.length = R.length := by rw [← hm, List.length_map]
    have hCs : Cs.length ≤ 65536 := by have := HF.out; omega
    have HCC := Lib.hid hCl
    have HM := Lib.hid hm
    have HCL := Lib.hid hCL
    have HB2 := Lib.hid hb2
    clear C hm hCL hb2 hCl hs
    go_wp2_with fail
    go_loopw [6, 20] (fun nv iv wr => ∃ k : Nat, k ≤ Cs.length ∧ iv = .int .i64 (k : Int) ∧ nv = .int .i64 (cntT (fun L => noX L) R k : Nat) ∧ Below w2.heap.size w2 wr) (fun _ iv _ => Cs.length - (intOf iv).toNat)
    case atStart => exact ⟨0, Nat.zero_le _, rfl, by simp [cntT], Below.refl _ _⟩
    case round =>
      obtain ⟨k, hk, rfl, rfl, hbr⟩ := hrel
      by_cases hlt : k < Cs.length
      · obtain ⟨x, hx⟩ : ∃ x, Cs[k]? = some x := ⟨_, List.getElem?_eq_getElem hlt⟩
        have hxm : x ∈ Cs := List.mem_of_getElem? hx
        obtain ⟨g9, rfl⟩ := own_form HCL.out.own (show 0 < Cs.length by omega)
        have hg9 := (own_lt HCL.out.own).2
        obtain ⟨d0, d1, d2⟩ := HCL.out.at hx
        have c0 := (hbr.cell (p := ⟨g9, k * 3, none⟩) hg9).trans d0
        have c1 := (hbr.cell (p := ⟨g9, k * 3 + 1, none⟩) hg9).trans d1
        have c2 := (hbr.cell (p := ⟨g9, k * 3 + 2, none⟩) hg9).trans d2
        have hxs := HCL.out.sq x hxm
        have hxc := own_cap hxs
        have hxq : SqsAt wr wr.heap.size x.2.1 x.1 := ((sqs_of_own hxs).below hbr).mono hbr.size
        have hRk : R[k]? = some x.1 := by rw [← HM.out, List.getElem?_map, hx]; rfl
        have hG := HG.out x.1 (List.mem_of_getElem? hRk)
        have hn := hG.2.2.1
        have HR := Lib.hid hRk
        have k0 : (0 : Int) ≤ (k : Int) := by omega
        have k1 : (k : Int) < (Cs.length : Int) := by omega
        have hct : (cntT (fun L => noX L) R k : Int) ≤ 65536 := by have := cntT_le (fun L => noX L) R k; have := HF.out; omega
        have hct0 : (0 : Int) ≤ (cntT (fun L => noX L) R k : Int) := by omega
        obtain ⟨W1, hW1⟩ : ∃ W1, W1 = wr.alloc (.cells #[.int .i64 a, .int .i64 b, .slice x.2.1 x.1.length x.2.2] 30) := ⟨_, rfl⟩
        have hb1 : Below wr.heap.size wr W1 := by rw [hW1]; exact (Below.refl _ _).alloc (Nat.le_refl _) _
        have f0 : W1.cell? ⟨wr.heap.size, 0, none⟩ = some (.int .i64 a) := by rw [hW1]; simp
        have f1 : W1.cell? ⟨wr.heap.size, 1, none⟩ = some (.int .i64 b) := by rw [hW1]; simp
        have f2 : W1.cell? ⟨wr.heap.size, 2, none⟩ = some (.slice x.2.1 x.1.length x.2.2) := by rw [hW1]; simp
        have hz1 : wr.heap.size < W1.heap.size := by rw [hW1]; simp
        have hxq1 : SqsAt W1 W1.heap.size x.2.1 x.1 := (hxq.below hb1).mono hb1.size
        have hB1 : Below w2.heap.size w2 W1 := hbr.trans (hb1.mono hbr.size)
        have HX := Lib.hid hx
        clear d0 d1 d2 hRk hx hxs hxq
        go_wp2_with fail
        rw [← hW1]
        clear hW1
        obtain ⟨Lx, Ax, cx⟩ := x
        dsimp only at *
        have hn1 := hG.2.2.1.1
        obtain ⟨s0, hs0⟩ : ∃ s, Lx[0]? = some s := ⟨_, List.getElem?_eq_getElem (by omega)⟩
        obtain ⟨b0, off0, rfl, _⟩ := hxq1 0 s0 hs0
        clear hs0
        have hfine : ∀ s ∈ Lx, Fine s := fun s hs => by
          obtain ⟨j, hj⟩ := List.mem_iff_getElem?.1 hs
          exact (hG.2.2.2.1 j s hj).1.fine hG.1.2 hG.2.1.2
        have HFI := Lib.hid hfine
        have h30 := hG.2.2.1.2
        have HXQ := Lib.hid hxq1
        obtain ⟨wo, rfl⟩ : ∃ wo : World, wo = wr := ⟨_, rfl⟩
        have HB1 := Lib.hid hB1
        clear hfine hxq1 hG hbr hb1 hB1
        go_wp2_with fail
        go_loopw [9, 27] (fun mv jv wi => ∃ j : Nat, j ≤ Lx.length ∧ jv = .int .i64 (j : Int) ∧ mv = .int .i64 ((crossL Lx j).length : Nat) ∧ Below W1.heap.size W1 wi) (fun _ jv _ => Lx.length - (intOf jv).toNat)
        case atStart => exact ⟨0, Nat.zero_le _, rfl, by simp [crossL], Below.refl _ _⟩
        case round =>
          obtain ⟨j, hj, rfl, rfl, hbi⟩ := hrel
          have hcl := crossL_len Lx j
          have g0 := (hbi.cell (p := ⟨wo.heap.size, 0, none⟩) hz1).trans f0
          have g1 := (hbi.cell (p := ⟨wo.heap.size, 1, none⟩) hz1).trans f1
          have g2 := (hbi.cell (p := ⟨wo.heap.size, 2, none⟩) hz1).trans f2
          by_cases hjl : j < Lx.length
          · obtain ⟨s, hs⟩ : ∃ s, Lx[j]? = some s := ⟨_, List.getElem?_eq_getElem hjl⟩
            obtain ⟨b', off, hA, hb', e0, e1, e2⟩ := HXQ.out j s hs
            cases hA
            have e0 := (hbi.cell (p := ⟨b0, _, none⟩) hb').trans e0
            have e1 := (hbi.cell (p := ⟨b0, _, none⟩) hb').trans e1
            have e2 := (hbi.cell (p := ⟨b0, _, none⟩) hb').trans e2
            have hcn := crossL_count Lx j s hs
            have j0 : (0 : Int) ≤ (j : Int) := by omega
            have j1 : (j : Int) < (Lx.length : Int) := by omega
            have hzw : W1.heap.size ≤ wr.heap.size := hbi.size
            obtain ⟨W2, hW2⟩ : ∃ W2, W2 = wr.alloc (.cells #[.int .i64 s.x, .int .i64 s.y, .int .i64 s.d] 78) := ⟨_, rfl⟩
            have hb2 : Below wr.heap.size wr W2 := by rw [hW2]; exact (Below.refl _ _).alloc (Nat.le_refl _) _
            have y0 : W2.cell? ⟨wr.heap.size, 0, none⟩ = some (.int .i64 s.x) := by rw [hW2]; simp
            have y1 : W2.cell? ⟨wr.heap.size, 1, none⟩ = some (.int .i64 s.y) := by rw [hW2]; simp
            have hbz : wo.heap.size < wr.heap.size := by omega
            have g0 := (hb2.cell (p := ⟨wo.heap.size, 0, none⟩) hbz).trans g0
            have g1 := (hb2.cell (p := ⟨wo.heap.size, 1, none⟩) hbz).trans g1
            have g2 := (hb2.cell (p := ⟨wo.heap.size, 2, none⟩) hbz).trans g2
            have hBi2 : Below W1.heap.size W1 W2 := hbi.trans (hb2.mono hbi.size)
            have CC := cuCorners_any a b (some ⟨b0, off0, none⟩) Lx.length cx Lx s.x s.y W2 rfl h30 ((HXQ.out.below hBi2).mono hBi2.size) HFI.out
            obtain ⟨N0, hN0⟩ : ∃ z, corN Lx s.x s.y Lx.length = z := ⟨_, rfl⟩
            rw [hN0] at CC
            have HN0 := Lib.hid hN0
            have hN4 : N0 ≤ Lx.length := by
              rw [← hN0]; unfold corN; exact Nat.le_trans (List.length_filter_le _ _) (by rw [List.length_take]; omega)
            rw [hN0] at hcn
            have HCN := Lib.hid hcn
            clear hs hcn hN0
            have HBI := Lib.hid hBi2
            have c0' : (0 : Int) ≤ ((crossL Lx j).length : Nat) := by omega
            have c1' : (((crossL Lx j).length : Nat) : Int) ≤ 30 := by omega
            clear hBi2
            go_wp2_with fail
            rw [← hW2]
            clear hW2
            go_wp2_with fail
            (with_reducible refine CC.mono ?_)
            rintro e w3 ⟨rfl, hb3⟩
            have hB3 := HBI.out.trans (hb3.mono HBI.out.size)
            have HB3 := Lib.hid hB3
            clear hb3 hB3 CC g0 g1 g2 y0 y1
            by_cases h4 : N0 = 4
            · have e9 : ((N0 : Int) == 4) = true := by simp; omega
              have h4' := Lib.hid h4
              clear h4
              go_wp2_with fail
              go_roundw
              case rel => exact ⟨j + 1, by omega, by go_num, by rw [HCN.out, if_pos h4'.out]; go_num, HB3.out⟩
              case measure => simp [intOf]; omega
            · have e9 : ((N0 : Int) == 4) = false := by simp; omega
              have h4' := Lib.hid h4
              clear h4
              go_wp2_with fail
              go_roundw
              case rel => exact ⟨j + 1, by omega, by go_num, by rw [HCN.out, if_neg h4'.out]; rfl, HB3.out⟩
              case measure => simp [intOf]; omega
          · obtain rfl : j = Lx.length := by omega
            have hbe : Below w2.heap.size w2 wr := HB1.out.trans (hbi.mono HB1.out.size)
            have HBE := Lib.hid hbe
            have hpx : noX Lx = ((crossL Lx Lx.length).length == 0) := rfl
            have HPX := Lib.hid hpx
            obtain ⟨m, hm⟩ : ∃ m, (crossL Lx Lx.length).length = m := ⟨_, rfl⟩
            rw [hm] at hcl
            rw [hm] at HPX
            rw [hm]
            clear hbe hbi g0 g1 g2 hpx hm
            by_cases h0 : m = 0
            · have e1 : ((m : Int) == 0) = true := by first | omega | (simp; done) | (simp; omega)
              have hp : (fun L => noX L) Lx = true := by show noX Lx = true; rw [HPX.out]; simpa using h0
              have HP := Lib.hid hp
              clear hp
              go_wp2_with fail
              go_roundw
              case rel => exact ⟨k + 1, by omega, by go_num, by rw [cntT_yes HR.out HP.out]; go_num, HBE.out⟩
              case measure => simp [intOf]; omega
            · have e1 : ((m : Int) == 0) = false := by first | omega | (simp; done) | (simp; omega)
              have hp : (fun L => noX L) Lx = false := by show noX Lx = false; rw [HPX.out]; simpa using h0
              have HP := Lib.hid hp
              clear hp
              go_wp2_with fail
              go_roundw
              case rel => exact ⟨k + 1, by omega, by go_num, by rw [cntT_no HR.out HP.out], HBE.out⟩
              case measure => simp [intOf]; omega
      · obtain rfl : k = Cs.length := by omega
        have e : (cntT (fun L => noX L) R Cs.length : Int) = ((R.filter (fun L => noX L)).length : Nat) := by rw [HCC.out, cntT_all]
        have HE := Lib.hid e
        clear e
        go_wp2_with fail
        go_ret2
        exact ⟨by rw [HE.out]; rfl, HB2.out.trans (hbr.mono HB2.out.size)⟩
end Go.Proofs.Ytohajmbgdapnhaa
