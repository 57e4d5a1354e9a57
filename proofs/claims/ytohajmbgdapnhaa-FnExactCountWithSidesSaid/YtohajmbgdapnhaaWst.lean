/- CountWithSides: the model's, the function itself. -/
import Derived.Test.YtohajmbgdapnhaaWss
set_option linter.all false
namespace Go.Proofs.Ytohajmbgdapnhaa
open Go.RowKit Go.Shelf

set_option maxRecDepth 100000 in
set_option maxHeartbeats 2000000 in
theorem l1All_any (A : Option Addr) (n c : Nat) (d : List Int) (lo hi : Int) (w : World) (hl : d.length = n) (hn : n ≤ 1048576) (hd : IntsAt w w.heap.size A d) :
    Calls Try.prog 67 #[.slice A n c, .int .i64 lo, .int .i64 hi] w (RetB w (∀ s ∈ d, lo ≤ s ∧ s ≤ hi)) := by
  subst hl
  go_enter Try.func67, Try.ntmps67
  go_wp2_with fail
  go_loopw [11] (fun i wr => ∃ k : Nat, k ≤ d.length ∧ i = .int .i64 k ∧ Below w.heap.size w wr ∧ ∀ (j : Nat) s, j < k → d[j]? = some s → lo ≤ s ∧ s ≤ hi) (fun i _ => d.length - (intOf i).toNat)
  case atStart => exact ⟨0, Nat.zero_le _, rfl, Below.refl _ _, fun j s hj => by omega⟩
  case round =>
    obtain ⟨k, hk, rfl, hbr, hin⟩ := hrel
    by_cases hlt : k < d.length
    · obtain ⟨s, hs⟩ : ∃ s, d[k]? = some s := ⟨_, List.getElem?_eq_getElem hlt⟩
      obtain ⟨b, off, rfl, hb, d0⟩ := hd k s hs
      have d0r : wr.cell? ⟨b, off + k, none⟩ = some (.int .i64 s) := (hbr.cell (p := ⟨b, _, none⟩) hb).trans d0
      have k0 : (0 : Int) ≤ (k : Int) := by omega
      have k1 : (k : Int) < (d.length : Int) := by omega
      have HS := Lib.hid hs
      have HI := Lib.hid hin
      clear hs hin d0 hd
      cases hok : inB s lo hi
      · have HK := Lib.hid hok
        clear hok
        go_wp2_with fail
        refine (l1In_any _ _ _ _).mono ?_
        rw [HK.out]
        rintro e w' ⟨rfl, rfl⟩
        go_wp2_with fail
        go_ret
        refine RetB.mk (p := ∀ s ∈ d, lo ≤ s ∧ s ≤ hi) ⟨fun e => by simp at e, fun h => ?_⟩ hbr
        have := inB_iff.2 (h s (List.mem_of_getElem? HS.out))
        rw [HK.out] at this
        cases this
      · have HK := Lib.hid hok
        clear hok
        go_wp2_with fail
        refine (l1In_any _ _ _ _).mono ?_
        rw [HK.out]
        rintro e w' ⟨rfl, rfl⟩
        go_wp2_with fail
        go_roundw
        case rel =>
          refine ⟨k + 1, by omega, by go_num, hbr, fun j q hj hq => ?_⟩
          by_cases e : j = k
          · subst e
            obtain rfl := Option.some.inj (HS.out.symm.trans hq)
            exact inB_iff.1 HK.out
          · exact HI.out j q (by omega) hq
        case measure => simp [intOf]; omega
    · obtain rfl : k = d.length := by omega
      clear hd
      have HI := Lib.hid hin
      clear hin
      go_wp2_with fail
      go_ret
      refine RetB.mk (p := ∀ s ∈ d, lo ≤ s ∧ s ≤ hi) ⟨fun _ s hs => ?_, fun _ => rfl⟩ hbr
      obtain ⟨j, hj, e⟩ := List.mem_iff_getElem.1 hs
      exact HI.out j s hj (by rw [List.getElem?_eq_getElem hj, e])

set_option maxRecDepth 100000 in
set_option maxHeartbeats 4000000 in
theorem specWs_any (W H : Int) (A : Option Addr) (n c : Nat) (d : List Int) (w : World) (hl : d.length = n) (hn : n ≤ 1048576) (hd : IntsAt w w.heap.size A d) :
    Calls Try.prog 29 #[.int .i64 W, .int .i64 H, .slice A n c] w (RetWs w W H d) := by
  subst hl
  have hs := ctFew_any W H w
  unfold RetWs
  cases hok : okL W H with
  | false =>
    have hv : wsV W H d = 0 := by
      cases hk : okD d with
      | false => exact wsV_no hk
      | true => rw [wsV_yes hk, cntL_no hok]
    rw [hv, Bool.false_and]
    rw [hok] at hs
    clear hd
    go_enter Try.func29, Try.ntmps29
    go_wp2_with fail
    refine hs.mono ?_
    rintro e w' ⟨rfl, rfl⟩
    go_wp2_with fail
    go_ret2
    exact ⟨rfl, Below.refl _ _⟩
  | true =>
    rw [hok] at hs
    rw [Bool.true_and]
    have HS := Lib.hid hs
    clear hs
    by_cases h16 : 1 ≤ (d.length : Int) ∧ (d.length : Int) ≤ 16
    · have d2 := Lib.hid (inB_iff.2 h16)
      have CA := l1All_any A d.length c d 1 6 w rfl hn hd
      have HCA' := Lib.hid CA
      have HD := Lib.hid hd
      clear CA hd
      by_cases hal : ∀ s ∈ d, 1 ≤ s ∧ s ≤ 6
      · have hk : okD d = true := okD_iff.2 ⟨by omega, hal⟩
        rw [wsV_yes hk, hk]
        have HAL := Lib.hid hal
        clear hal hk
        obtain ⟨a, b, rfl, rfl⟩ := okL_ex hok
        have hh := okL_nat.1 hok
        rw [cntL_yes hok]
        have hgood := allF_good hok
        have hfew := allF_few hok
        have C := fun w => ctAll_any a b (by omega) (by omega) (by omega) w
        simp only [show fills 6 b (a * b) (List.replicate a 0) = allF a b from rfl] at C
        obtain ⟨R, hR⟩ : ∃ R, allF a b = R := ⟨_, rfl⟩
        simp only [hR] at C hgood hfew ⊢
        have hdl := dsc_len d
        obtain ⟨G, hG⟩ : ∃ G, dsc d = G := ⟨_, rfl⟩
        rw [hG] at hdl ⊢
        have HGD := Lib.hid hG
        have HDL := Lib.hid hdl
        have HG := Lib.hid hgood
        have HF := Lib.hid hfew
        have HCA := Lib.hid C
        clear hok hR hgood hfew C hdl hG
        go_enter Try.func29, Try.ntmps29
        go_wp2_with fail
        (with_reducible refine HS.out.mono ?_)
        rintro e w' ⟨rfl, rfl⟩
        go_wp2_with fail
        refine (l1In_any _ _ _ _).mono ?_
        rw [d2.out]
        rintro e w' ⟨rfl, rfl⟩
        go_wp2_with fail
        (with_reducible refine (callB_yes HCA'.out HAL.out).mono ?_)
        rintro e w9 ⟨rfl, hb9⟩
        go_wp2_with fail
        clear HS
        have CG2 := ctSides_any A d.length c d w9 rfl (by omega) ((HD.out.below hb9).mono hb9.size)
        rw [HGD.out] at CG2
        (with_reducible refine CG2.mono ?_)
        rintro e wc ⟨A5, c5, rfl, ho5, hb5⟩
        have HW := Lib.hid (ints_of_own ho5)
        have hBc : Below w.heap.size w wc := hb9.trans (hb5.mono hb9.size)
        clear ho5 hb5 CG2
        go_wp2_with fail
        (with_reducible refine (HCA.out _).mono ?_)
        rintro e w2 ⟨A9, c9, Cs, rfl, hm, hCL, hb2⟩
        have hCl : Cs.length = R.length := by rw [← hm, List.length_map]
        have hCs : Cs.length ≤ 65536 := by have := HF.out; omega
        have HCC := Lib.hid hCl
        have HM := Lib.hid hm
        have HCL := Lib.hid hCL
        have HB2 := Lib.hid hb2
        clear  hm hCL hb2 hCl
        go_wp2_with fail
        go_loopw [8, 33] (fun nv iv wr => ∃ k : Nat, k ≤ Cs.length ∧ iv = .int .i64 (k : Int) ∧ nv = .int .i64 (cntT (fun L => dsc (sides L) == G) R k : Nat) ∧ Below w2.heap.size w2 wr) (fun _ iv _ => Cs.length - (intOf iv).toNat)
        case atStart => exact ⟨0, Nat.zero_le _, rfl, by simp [cntT], Below.refl _ _⟩
        case round =>
          obtain ⟨k, hk, rfl, rfl, hbr⟩ := hrel
          by_cases hlt : k < Cs.length
          · obtain ⟨x, hx⟩ : ∃ x, Cs[k]? = some x := ⟨_, List.getElem?_eq_getElem hlt⟩
            have hxm : x ∈ Cs := List.mem_of_getElem? hx
            obtain ⟨g9, rfl⟩ := own_form HCL.out.own (show 0 < Cs.length by omega)
            have hg9 := (own_lt HCL.out.own).2
            obtain ⟨d0, d1, d2⟩ := HCL.out.at hx
            have c0 := (hbr.cell (p := ⟨g9, k * 3, none⟩) hg9).trans d0
            have c1 := (hbr.cell (p := ⟨g9, k * 3 + 1, none⟩) hg9).trans d1
            have c2 := (hbr.cell (p := ⟨g9, k * 3 + 2, none⟩) hg9).trans d2
            have hxs := HCL.out.sq x hxm
            have hxc := own_cap hxs
            have hxq : SqsAt wr wr.heap.size x.2.1 x.1 := ((sqs_of_own hxs).below hbr).mono hbr.size
            have hRk : R[k]? = some x.1 := by rw [← HM.out, List.getElem?_map, hx]; rfl
            have hG := HG.out x.1 (List.mem_of_getElem? hRk)
            have hn := hG.2.2.1
            have HR := Lib.hid hRk
            have k0 : (0 : Int) ≤ (k : Int) := by omega
            have k1 : (k : Int) < (Cs.length : Int) := by omega
            have hct : (cntT (fun L => dsc (sides L) == G) R k : Int) ≤ 65536 := by have := cntT_le (fun L => dsc (sides L) == G) R k; have := HF.out; omega
            have hct0 : (0 : Int) ≤ (cntT (fun L => dsc (sides L) == G) R k : Int) := by omega
            obtain ⟨W1, hW1⟩ : ∃ W1, W1 = wr.alloc (.cells #[.int .i64 a, .int .i64 b, .slice x.2.1 x.1.length x.2.2] 30) := ⟨_, rfl⟩
            have hb1 : Below wr.heap.size wr W1 := by rw [hW1]; exact (Below.refl _ _).alloc (Nat.le_refl _) _
            have f0 : W1.cell? ⟨wr.heap.size, 0, none⟩ = some (.int .i64 a) := by rw [hW1]; simp
            have f1 : W1.cell? ⟨wr.heap.size, 1, none⟩ = some (.int .i64 b) := by rw [hW1]; simp
            have f2 : W1.cell? ⟨wr.heap.size, 2, none⟩ = some (.slice x.2.1 x.1.length x.2.2) := by rw [hW1]; simp
            have hz1 : wr.heap.size < W1.heap.size := by rw [hW1]; simp
            have hxq1 : SqsAt W1 W1.heap.size x.2.1 x.1 := (hxq.below hb1).mono hb1.size
            have hB1 : Below w2.heap.size w2 W1 := hbr.trans (hb1.mono hbr.size)
            have HX := Lib.hid hx
            clear d0 d1 d2 hRk hx hxs hxq
            go_wp2_with fail
            rw [← hW1]
            clear hW1
            have CC := ctList_any a b x.2.1 x.1.length x.2.2 x.1 W1 rfl (by omega) hxq1
            have HCF := Lib.hid CC
            have hl1 : (dsc (sides x.1)).length ≤ 1048576 := by rw [dsc_len, sides_len]; omega
            clear CC f0 f1 f2 hG
            (with_reducible refine HCF.out.mono ?_)
            rintro e w3 ⟨A3, c3, rfl, ho3, hb3⟩
            have hbe : Below w2.heap.size w2 w3 := hB1.trans (hb3.mono hB1.size)
            have hbw : Below wc.heap.size wc w3 := HB2.out.trans (hbe.mono HB2.out.size)
            have CE := l1Same_any A3 A5 c3 c5 (dsc (sides x.1)) G w3 hl1 (by have := HDL.out; omega) (ints_of_own ho3) ((HW.out.below hbw).mono hbw.size)
            have HCE := Lib.hid CE
            clear CE ho3 hbw
            by_cases heq : dsc (sides x.1) = G
            · have hp : (fun L => dsc (sides L) == G) x.1 = true := by simpa using heq
              have HP := Lib.hid hp
              have HLT := Lib.hid heq
              clear hp heq
              go_wp2_with fail
              (with_reducible refine (callB_yes HCE.out HLT.out).mono ?_)
              rintro e w4 ⟨rfl, hb4⟩
              have hbe4 : Below w2.heap.size w2 w4 := hbe.trans (hb4.mono hbe.size)
              have HBE := Lib.hid hbe4
              clear hb3 hbe hb4 hbe4
              go_wp2_with fail
              go_roundw
              case rel => exact ⟨k + 1, by omega, by go_num, by rw [cntT_yes HR.out HP.out]; go_num, HBE.out⟩
              case measure => simp [intOf]; omega
            · have hp : (fun L => dsc (sides L) == G) x.1 = false := by simpa using heq
              have HP := Lib.hid hp
              have HLT := Lib.hid heq
              clear hp heq
              go_wp2_with fail
              (with_reducible refine (callB_no HCE.out HLT.out).mono ?_)
              rintro e w4 ⟨rfl, hb4⟩
              have hbe4 : Below w2.heap.size w2 w4 := hbe.trans (hb4.mono hbe.size)
              have HBE := Lib.hid hbe4
              clear hb3 hbe hb4 hbe4
              go_wp2_with fail
              go_roundw
              case rel => exact ⟨k + 1, by omega, by go_num, by rw [cntT_no HR.out HP.out], HBE.out⟩
              case measure => simp [intOf]; omega
          · obtain rfl : k = Cs.length := by omega
            have e : (cntT (fun L => dsc (sides L) == G) R Cs.length : Int) = ((R.filter (fun L => dsc (sides L) == G)).length : Nat) := by rw [HCC.out, cntT_all]
            have HE := Lib.hid e
            clear e
            go_wp2_with fail
            go_ret2
            exact ⟨by rw [HE.out]; rfl, hBc.trans ((HB2.out.trans (hbr.mono HB2.out.size)).mono hBc.size)⟩
      · have hk : okD d = false := okD_false fun h => hal h.2
        rw [wsV_no hk, hk]
        have HAL := Lib.hid hal
        clear hal hk
        go_enter Try.func29, Try.ntmps29
        go_wp2_with fail
        (with_reducible refine HS.out.mono ?_)
        rintro e w' ⟨rfl, rfl⟩
        go_wp2_with fail
        refine (l1In_any _ _ _ _).mono ?_
        rw [d2.out]
        rintro e w' ⟨rfl, rfl⟩
        go_wp2_with fail
        (with_reducible refine (callB_no HCA'.out HAL.out).mono ?_)
        rintro e w9 ⟨rfl, hb9⟩
        go_wp2_with fail
        go_ret2
        exact ⟨rfl, hb9⟩
    · have d2 : Hid (inB (d.length : Int) 1 16 = false) := Lib.hid (by cases e : inB (d.length : Int) 1 16 with | false => rfl | true => exact absurd (inB_iff.1 e) h16)
      have hk : okD d = false := okD_false fun h => h16 (by omega)
      rw [wsV_no hk, hk]
      clear hd hk
      go_enter Try.func29, Try.ntmps29
      go_wp2_with fail
      (with_reducible refine HS.out.mono ?_)
      rintro e w' ⟨rfl, rfl⟩
      go_wp2_with fail
      refine (l1In_any _ _ _ _).mono ?_
      rw [d2.out]
      rintro e w' ⟨rfl, rfl⟩
      go_wp2_with fail
      go_ret2
      exact ⟨rfl, Below.refl _ _⟩
end Go.Proofs.Ytohajmbgdapnhaa
