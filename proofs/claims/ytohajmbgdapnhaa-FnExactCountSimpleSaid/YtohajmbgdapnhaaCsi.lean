/- CountSimple: the program's and the model's. -/
import Derived.Test.YtohajmbgdapnhaaLsA
import Derived.Test.YtohajmbgdapnhaaCtlA
import Derived.Test.YtohajmbgdapnhaaPartsS
import Derived.Test.YtohajmbgdapnhaaSimpI
set_option linter.all false
namespace Go.Proofs.Ytohajmbgdapnhaa
open Go.RowKit Go.Shelf

theorem simp_any (W H : Int) (A : Option Addr) (n c : Nat) (L : List Sq) (w : World) (hl : L.length = n) (hc : n ≤ c) (hL : SqsAt w w.heap.size A L) (hG : Good W H L) :
    Calls Try.prog 79 #[.agg #[.int .i64 W, .int .i64 H, .slice A n c]] w fun e w' => e = .returned (.bool (dc (NoPart L))) ∧ Below w.heap.size w w' := by
  obtain ⟨w1, hw1⟩ : ∃ w1, w1 = w.alloc (.cells #[.int .i64 W, .int .i64 H, .slice A n c] 30) := ⟨_, rfl⟩
  have hb1 : Below w.heap.size w w1 := by rw [hw1]; exact (Below.refl _ _).alloc (Nat.le_refl _) _
  have C := implSimp_any W H A n c L w1 hl hc ((hL.below hb1).mono hb1.size) (wf_good hG)
  have e : dc (Good W H L ∧ NoPart L) = dc (NoPart L) := by
    by_cases h : NoPart L
    · rw [dc_true h, dc_true ⟨hG, h⟩]
    · rw [dc_false h, dc_false fun k => h k.2]
  unfold RetSimp at C
  rw [e] at C
  obtain ⟨v, hv⟩ : ∃ v, dc (NoPart L) = v := ⟨_, rfl⟩
  rw [hv] at C ⊢
  have HC := Lib.hid C
  clear C e hv hL hG
  go_enter Try.func79, Try.ntmps79
  go_wp2_with fail
  rw [← hw1]
  refine HC.out.mono ?_
  rintro e w2 ⟨rfl, hb2⟩
  clear hw1
  go_wp2_with fail
  go_ret
  exact ⟨rfl, hb1.trans (hb2.mono hb1.size)⟩
set_option maxRecDepth 100000 in
theorem one_simp (W H : Int) (L : List Sq) (A : Option Addr) (c Bi : Nat) (p : List Sq → Bool) (w : World) (hi : w.cell? ⟨Bi, 0, none⟩ = some (.func (.func 79) #[] #[]))
    (CP : ∀ V, Below w.heap.size w V → Calls Try.prog 79 #[.agg #[.int .i64 W, .int .i64 H, .slice A L.length c]] V fun e V' => e = .returned (.bool (p L)) ∧ Below V.heap.size V V') :
    Calls Try.prog 148 #[.agg #[.int .i64 W, .int .i64 H, .slice A L.length c], .pointer (some ⟨Bi, 0, none⟩)] w fun e w' => e = .returned (.int .i64 (if p L then 1 else 0)) ∧ Below w.heap.size w w' := by
  have hBi := World.block_lt_of_cell? _ _ hi
  obtain ⟨w1, hw1⟩ : ∃ w1, w1 = w.alloc (.cells #[.int .i64 W, .int .i64 H, .slice A L.length c] 30) := ⟨_, rfl⟩
  have hb1 : Below w.heap.size w w1 := by rw [hw1]; exact (Below.refl _ _).alloc (Nat.le_refl _) _
  have i1 := (hb1.cell (p := ⟨Bi, 0, none⟩) hBi).trans hi
  have C := fun w' (hb' : Below w1.heap.size w1 w') => CP w' (hb1.trans (hb'.mono hb1.size))
  obtain ⟨v, hv⟩ : ∃ v, p L = v := ⟨_, rfl⟩
  simp only [hv] at C ⊢
  have HC := Lib.hid C
  rw [hw1] at i1
  clear C CP hi hv
  go_enter Try.func148, Try.ntmps148
  go_wp2_with fail
  rw [← hw1]
  clear hw1
  refine (HC.out _ (by first | exact Below.refl _ _ | exact (Below.refl _ _).drew | exact below_drewN (Below.refl _ _) _)).mono ?_
  rintro e w2 ⟨rfl, hb2⟩
  have hB2 := hb1.trans (hb2.mono hb1.size)
  clear i1
  cases v
  · go_wp2_with fail
    go_ret
    exact ⟨rfl, hB2⟩
  · go_wp2_with fail
    go_ret
    exact ⟨rfl, hB2⟩
set_option maxRecDepth 100000 in
theorem countL_simp (W H : Nat) (hok : okL W H = true) (p : List Sq → Bool) (w : World)
    (CP : ∀ V L A c, Below w.heap.size w V → L ∈ allF W H → L.length ≤ c → SqsAt V V.heap.size A L → Calls Try.prog 79 #[.agg #[.int .i64 W, .int .i64 H, .slice A L.length c]] V fun e V' => e = .returned (.bool (p L)) ∧ Below V.heap.size V V') :
    Calls Try.prog 64 #[.int .i64 W, .int .i64 H, .func (.func 79) #[] #[]] w fun e w' => e = .returned (.tuple #[.int .i64 (cntL W H p), .bool true]) ∧ Below w.heap.size w w' := by
  have hh := okL_nat.1 hok
  obtain ⟨w1, hw1⟩ : ∃ w1, w1 = (w.alloc (.cells #[.int .i64 W] 3)).alloc (.cells #[.int .i64 H] 3) := ⟨_, rfl⟩
  have hz1 : w1.heap.size = w.heap.size + 2 := by rw [hw1]; simp
  have hb1 : Below w.heap.size w w1 := by rw [hw1]; exact ((Below.refl _ _).alloc (Nat.le_refl _) _).alloc (by simp) _
  have cw : w1.cell? ⟨w.heap.size, 0, none⟩ = some (.int .i64 W) := by rw [hw1, World.cell?_alloc_lt _ _ _ (by simp)]; simp [go_sem]
  have ch : w1.cell? ⟨w.heap.size + 1, 0, none⟩ = some (.int .i64 H) := by rw [hw1]; simp [go_sem]
  obtain ⟨w2, hw2⟩ : ∃ w2, w2 = w1.alloc (.cells #[.func (.func 79) #[] #[]] 67) := ⟨_, rfl⟩
  have hb2 : Below w1.heap.size w1 w2 := by rw [hw2]; exact (Below.refl _ _).alloc (Nat.le_refl _) _
  have hB2 := hb1.trans (hb2.mono hb1.size)
  have q : ∀ {b : Nat} {v : Value}, w1.cell? ⟨b, 0, none⟩ = some v → w2.cell? ⟨b, 0, none⟩ = some v := fun h => (hb2.cell (p := ⟨_, 0, none⟩) (World.block_lt_of_cell? _ _ h)).trans h
  have i1 : w2.cell? ⟨w1.heap.size, 0, none⟩ = some (.func (.func 79) #[] #[]) := by rw [hw2]; simp [go_sem]
  have CS := sumC_p W H (by omega) (by omega) w.heap.size (w.heap.size + 1) w1.heap.size (fun L => if p L then 1 else 0) w2 (q cw) (q ch) (fun V L A c hb hL hcap hsq =>
    one_simp W H L A c w1.heap.size p V ((hb.cell (p := ⟨w1.heap.size, 0, none⟩) (World.block_lt_of_cell? _ _ i1)).trans i1) (fun V' hb' => CP V' L A c (hB2.trans ((hb.trans (hb'.mono hb.size)).mono hB2.size)) hL hcap ((hsq.below hb').mono hb'.size)))
  rw [wtell_is] at CS
  have hlen : ((allF W H).filter p).length ≤ 65536 := Nat.le_trans (List.length_filter_le _ _) (allF_few hok)
  rw [w_in (by omega) (by omega)] at CS
  have HC := Lib.hid CS
  have C0 := listed_yes W H hok w
  rw [← hw1] at C0
  rw [cntL_yes hok]
  have CC : Calls Try.prog 115 #[.func (.func 160) #[] #[.pointer (some ⟨w.heap.size, 0, none⟩), .pointer (some ⟨w.heap.size + 1, 0, none⟩)], .func (.func 79) #[] #[]] w1 fun e w' => e = .returned (.int .i64 (((allF W H).filter p).length : Nat)) ∧ Below w1.heap.size w1 w' := by
    clear CS q i1 cw ch CP C0 hlen hok hw1 hz1
    go_enter Try.func115, Try.ntmps115
    go_wp2_with fail
    rw [← hw2]
    refine HC.out.mono ?_
    rintro e w3 ⟨rfl, hb3⟩
    clear hw2
    go_wp2_with fail
    go_ret
    exact ⟨rfl, hb2.trans (hb3.mono hb2.size)⟩
  have HCC := Lib.hid CC
  have HC0 := Lib.hid C0
  clear CS q i1 cw ch CP C0 hlen hok HC CC hw2 hw1
  go_enter Try.func64, Try.ntmps64
  go_wp2_with fail
  refine HC0.out.mono ?_
  rintro e w3 ⟨rfl, rfl⟩
  go_wp2_with fail
  refine HCC.out.mono ?_
  rintro e w4 ⟨rfl, hb4⟩
  go_wp2_with fail
  go_ret2
  exact ⟨rfl, hb1.trans (hb4.mono hb1.size)⟩
set_option maxRecDepth 100000 in
theorem impl_simp (W H : Int) (w : World) : Calls Try.prog 34 #[.int .i64 W, .int .i64 H] w fun e w' => e = .returned (.tuple #[.int .i64 (cntL W H (fun L => dc (NoPart L))), .bool (okL W H)]) ∧ Below w.heap.size w w' := by
  cases hok : okL W H with
  | false =>
    rw [cntL_no hok]
    have C := countListed_no W H hok (.func 79) #[] #[] w
    clear hok
    go_enter Try.func34, Try.ntmps34
    go_wp2_with fail
    refine C.mono ?_
    rintro e w2 ⟨rfl, hb2⟩
    go_wp2_with fail
    go_ret2
    exact ⟨rfl, hb2⟩
  | true =>
    obtain ⟨a, b, rfl, rfl⟩ := okL_ex hok
    have C := countL_simp a b hok (fun L => dc (NoPart L)) w (fun V L A c hb hL hc hsq => simp_any a b A L.length c L V rfl hc hsq (allF_good hok L hL))
    obtain ⟨v, hv⟩ : ∃ v, cntL a b (fun L => dc (NoPart L)) = v := ⟨_, rfl⟩
    rw [hv] at C ⊢
    have HC := Lib.hid C
    clear hok hv C
    go_enter Try.func34, Try.ntmps34
    go_wp2_with fail
    refine HC.out.mono ?_
    rintro e w2 ⟨rfl, hb2⟩
    go_wp2_with fail
    go_ret2
    exact ⟨rfl, hb2⟩
set_option maxRecDepth 100000 in
set_option maxHeartbeats 4000000 in
theorem spec_simp (W H : Int) (w : World) : Calls Try.prog 33 #[.int .i64 W, .int .i64 H] w fun e w' => e = .returned (.tuple #[.int .i64 (cntL W H (fun L => dc (NoPart L))), .bool (okL W H)]) ∧ Below w.heap.size w w' := by
  have hs := ctFew_any W H w
  cases hok : okL W H with
  | false =>
    rw [cntL_no hok]
    rw [hok] at hs
    go_enter Try.func33, Try.ntmps33
    go_wp2_with fail
    refine hs.mono ?_
    rintro e w' ⟨rfl, rfl⟩
    go_wp2_with fail
    go_ret2
    exact ⟨rfl, Below.refl _ _⟩
  | true =>
    obtain ⟨a, b, rfl, rfl⟩ := okL_ex hok
    have hh := okL_nat.1 hok
    rw [hok] at hs
    rw [cntL_yes hok]
    have hgood := allF_good hok
    have hfew := allF_few hok
    have C := ctAll_any a b (by omega) (by omega) (by omega) w
    rw [show fills 6 b (a * b) (List.replicate a 0) = allF a b from rfl] at C
    obtain ⟨R, hR⟩ : ∃ R, allF a b = R := ⟨_, rfl⟩
    rw [hR] at C hgood hfew ⊢
    have HG := Lib.hid hgood
    have HF := Lib.hid hfew
    clear hok hR hgood hfew
    go_enter Try.func33, Try.ntmps33
    go_wp2_with fail
    refine hs.mono ?_
    rintro e w' ⟨rfl, rfl⟩
    go_wp2_with fail
    refine C.mono ?_
    rintro e w2 ⟨A9, c9, Cs, rfl, hm, hCL, hb2⟩
    have hCl : Cs.length = R.length := by rw [← hm, List.length_map]
    have hCs : Cs.length ≤ 65536 := by have := HF.out; omega
    have HCC := Lib.hid hCl
    have HM := Lib.hid hm
    have HCL := Lib.hid hCL
    have HB2 := Lib.hid hb2
    clear C hm hCL hb2 hCl hs
    go_wp2_with fail
    go_loopw [6, 17] (fun nv iv wr => ∃ k : Nat, k ≤ Cs.length ∧ iv = .int .i64 (k : Int) ∧ nv = .int .i64 (cntT (fun L => dc (NoPart L)) R k : Nat) ∧ Below w2.heap.size w2 wr) (fun _ iv _ => Cs.length - (intOf iv).toNat)
    case atStart => exact ⟨0, Nat.zero_le _, rfl, by simp [cntT], Below.refl _ _⟩
    case round =>
      obtain ⟨k, hk, rfl, rfl, hbr⟩ := hrel
      by_cases hlt : k < Cs.length
      · obtain ⟨x, hx⟩ : ∃ x, Cs[k]? = some x := ⟨_, List.getElem?_eq_getElem hlt⟩
        have hxm : x ∈ Cs := List.mem_of_getElem? hx
        obtain ⟨g9, rfl⟩ := own_form HCL.out.own (show 0 < Cs.length by omega)
        have hg9 := (own_lt HCL.out.own).2
        obtain ⟨d0, d1, d2⟩ := HCL.out.at hx
        have c0 := (hbr.cell (p := ⟨g9, k * 3, none⟩) hg9).trans d0
        have c1 := (hbr.cell (p := ⟨g9, k * 3 + 1, none⟩) hg9).trans d1
        have c2 := (hbr.cell (p := ⟨g9, k * 3 + 2, none⟩) hg9).trans d2
        have hxs := HCL.out.sq x hxm
        have hxc := own_cap hxs
        have hxq : SqsAt wr wr.heap.size x.2.1 x.1 := ((sqs_of_own hxs).below hbr).mono hbr.size
        have hRk : R[k]? = some x.1 := by rw [← HM.out, List.getElem?_map, hx]; rfl
        have hG := HG.out x.1 (List.mem_of_getElem? hRk)
        have hn := hG.2.2.1
        have HR := Lib.hid hRk
        have k0 : (0 : Int) ≤ (k : Int) := by omega
        have k1 : (k : Int) < (Cs.length : Int) := by omega
        have hct : (cntT (fun L => dc (NoPart L)) R k : Int) ≤ 65536 := by have := cntT_le (fun L => dc (NoPart L)) R k; have := HF.out; omega
        have hct0 : (0 : Int) ≤ (cntT (fun L => dc (NoPart L)) R k : Int) := by omega
        obtain ⟨W1, hW1⟩ : ∃ W1, W1 = wr.alloc (.cells #[.int .i64 a, .int .i64 b, .slice x.2.1 x.1.length x.2.2] 30) := ⟨_, rfl⟩
        have hb1 : Below wr.heap.size wr W1 := by rw [hW1]; exact (Below.refl _ _).alloc (Nat.le_refl _) _
        have f0 : W1.cell? ⟨wr.heap.size, 0, none⟩ = some (.int .i64 a) := by rw [hW1]; simp
        have f1 : W1.cell? ⟨wr.heap.size, 1, none⟩ = some (.int .i64 b) := by rw [hW1]; simp
        have f2 : W1.cell? ⟨wr.heap.size, 2, none⟩ = some (.slice x.2.1 x.1.length x.2.2) := by rw [hW1]; simp
        have hz1 : wr.heap.size < W1.heap.size := by rw [hW1]; simp
        have hxq1 : SqsAt W1 W1.heap.size x.2.1 x.1 := (hxq.below hb1).mono hb1.size
        have hB1 : Below w2.heap.size w2 W1 := hbr.trans (hb1.mono hbr.size)
        have HX := Lib.hid hx
        clear d0 d1 d2 hRk hx hxs hxq
        go_wp2_with fail
        rw [← hW1]
        clear hW1
        refine (cuParts_any a b x.2.1 x.1.length x.2.2 x.1 W1 rfl hxc hxq1 hG).mono ?_
        rintro e w3 ⟨A3, c3, R3, rfl, hM3, hS3, hb3⟩
        have hN := noPart_iff hG
        have hlen := allP_len a b x.1 x.1.length
        have h900 : x.1.length * x.1.length ≤ 900 := Nat.le_trans (Nat.mul_le_mul hn.2 hn.2) (by decide)
        have hbe : Below w2.heap.size w2 w3 := hB1.trans (hb3.mono hB1.size)
        have HBE := Lib.hid hbe
        obtain ⟨m, hm⟩ : ∃ m, (allP a b x.1 x.1.length).length = m := ⟨_, rfl⟩
        have HMM := Lib.hid hm
        have HN := Lib.hid hN
        rw [hm] at hlen
        rw [hm]
        clear hN hm hM3 hS3 hb3 hbe hG hxq1 f0 f1 f2
        by_cases h0 : m = 0
        · have e1 : ((m : Int) == 0) = true := by first | omega | (simp; done) | (simp; omega)
          have hp : (fun L => dc (NoPart L)) x.1 = true := dc_true (HN.out.2 (List.eq_nil_of_length_eq_zero (HMM.out.trans h0)))
          have HP := Lib.hid hp
          clear hp
          go_wp2_with fail
          go_roundw
          case rel => exact ⟨k + 1, by omega, by go_num, by rw [cntT_yes HR.out HP.out]; go_num, HBE.out⟩
          case measure => simp [intOf]; omega
        · have e1 : ((m : Int) == 0) = false := by first | omega | (simp; done) | (simp; omega)
          have hp : (fun L => dc (NoPart L)) x.1 = false := dc_false fun h => h0 (by rw [← HMM.out, HN.out.1 h]; rfl)
          have HP := Lib.hid hp
          clear hp
          go_wp2_with fail
          go_roundw
          case rel => exact ⟨k + 1, by omega, by go_num, by rw [cntT_no HR.out HP.out], HBE.out⟩
          case measure => simp [intOf]; omega
      · obtain rfl : k = Cs.length := by omega
        have e : (cntT (fun L => dc (NoPart L)) R Cs.length : Int) = ((R.filter (fun L => dc (NoPart L))).length : Nat) := by rw [HCC.out, cntT_all]
        have HE := Lib.hid e
        clear e
        go_wp2_with fail
        go_ret2
        exact ⟨by rw [HE.out]; rfl, HB2.out.trans (hbr.mono HB2.out.size)⟩
end Go.Proofs.Ytohajmbgdapnhaa
