/- Contracts of GroupOfSquare, the program's and the model's. -/
import Derived.Test.YtmjdmedlkcmgiaaCodeI
import Derived.Test.YtmjdmedlkcmgiaaBk
set_option linter.all false
namespace Go.Proofs.Ytmjdmedlkcmgiaa
open Go.RowKit

def GrpIn (W H : Int) (L : List Sq) (kk : Int) : Prop := Good W H L ∧ 0 ≤ kk ∧ kk < L.length
noncomputable def grpR (W H : Int) (L : List Sq) (kk : Int) : Int := if dc (GrpIn W H L kk) then (grpAt L kk.toNat : Nat) else 0
theorem grpR_yes {W H : Int} {L : List Sq} {k : Nat} (h : GrpIn W H L k) : grpR W H L k = (grpAt L k : Nat) := by unfold grpR; rw [dc_true h]; simp
theorem grpR_no {W H : Int} {L : List Sq} {kk : Int} (h : ¬ GrpIn W H L kk) : grpR W H L kk = 0 := by unfold grpR; rw [dc_false h]; simp
def RetGrp (w : World) (W H : Int) (L : List Sq) (kk : Int) (e : Ending) (w' : World) : Prop :=
  e = .returned (.tuple #[.int .i64 (grpR W H L kk), .bool (dc (GrpIn W H L kk))]) ∧ Below w.heap.size w w'
theorem ret_ib {a a' : Int} {b b' : Bool} (h : a = a') (h' : b = b') : Ending.returned (.tuple #[.int .i64 a, .bool b]) = .returned (.tuple #[.int .i64 a', .bool b']) := by rw [h, h']

set_option maxRecDepth 100000 in
set_option maxHeartbeats 8000000 in
theorem specGroup_any (W H : Int) (A : Option Addr) (n c : Nat) (L : List Sq) (kk : Int) (w : World) (hl : L.length = n) (hc : n ≤ c) (hL : SqsAt w w.heap.size A L) :
    Calls Try.prog 41 #[.agg #[.int .i64 W, .int .i64 H, .slice A n c], .int .i64 kk] w (RetGrp w W H L kk) := by
  subst hl
  have hb0 : ∀ o : Obj, Below w.heap.size w (w.alloc o) := fun o => (Below.refl _ _).alloc (Nat.le_refl _) o
  have Z0 : Box w.heap.size w (w.alloc (.cells #[.int .i64 W, .int .i64 H, .slice A L.length c] 31)) W H A c L := Box.start hL
  by_cases hG : Good W H L
  · have hg30 := hG.2.2.1.2
    have hg1 := hG.2.2.1.1
    have hfine := good_fine hG
    have HG := Lib.hid hG
    go_enter Try.func41, Try.ntmps41
    go_wp2_with fail
    refine (callB_yes (cuGood_any W H A _ c L _ rfl hc ((hL.below (hb0 _)).mono (hb0 _).size)) hG).mono ?_
    rintro e w1 ⟨rfl, hb1⟩
    have Z1 := Z0.next hb1
    obtain ⟨hB1, hz1, b0, b1, b2, hL1⟩ := id Z1
    clear Z0 hb1 hb0 hG
    have CL := l1In_any kk 0 ((L.length : Int) - 1) w1
    by_cases hin : 0 ≤ kk ∧ kk < L.length
    · obtain ⟨k, rfl⟩ : ∃ k : Nat, kk = k := ⟨kk.toNat, by omega⟩
      have hk : k < L.length := by omega
      rw [show inB (k : Int) 0 ((L.length : Int) - 1) = true from inB_iff.2 ⟨by omega, by omega⟩] at CL
      have hGI : GrpIn W H L k := ⟨HG.out, by omega, by omega⟩
      have HGI := Lib.hid hGI
      clear hin hGI
      go_wp2_with fail
      refine CL.mono ?_
      rintro e w2 ⟨rfl, rfl⟩
      clear CL
      go_wp2_with fail
      refine (bkCode_any W H A L.length c L _ rfl hg30 (hL1.mono hB1.size) hfine).mono ?_
      rintro e w2 ⟨A2, c2, R, rfl, hM, hS, hb2⟩
      have hrows := hS.rows
      rw [hM] at hrows
      have htot := grps_tot L L.length (Nat.le_refl _)
      have hbd := grps_bd L L.length
      have hof := grpAt_of L k
      rw [List.take_of_length_le (Nat.le_refl _)] at htot hbd
      have hml : (glists (grps L)).length ≤ 30 := by simp only [glists, List.length_map]; omega
      obtain ⟨M, hMM⟩ : ∃ M, glists (grps L) = M := ⟨_, rfl⟩
      rw [hMM] at htot hrows hof hml ⊢
      have HT := Lib.hid htot
      have HO := Lib.hid hof
      have hBF := hB1.trans (hb2.mono hB1.size)
      clear hM hS htot hof hbd hMM Z1 hL1 b0 b1 b2 hL hb2 hfine
      go_wp2_with fail
      go_loop [1, 23] (fun v i => ∃ j : Nat, j ≤ M.length ∧ i = .int .i64 j ∧ v = .int .i64 ((k : Int) - tot (M.take j)) ∧ tot (M.take j) ≤ k) (fun _ i => M.length - (intOf i).toNat)
      case atStart => exact ⟨0, Nat.zero_le _, rfl, by simp [tot], by simp [tot]⟩
      case round =>
        obtain ⟨j, hj, rfl, rfl, hle⟩ := hrel
        by_cases hlt : j < M.length
        · obtain ⟨l, hlj⟩ : ∃ l, M[j]? = some l := ⟨_, List.getElem?_eq_getElem hlt⟩
          obtain ⟨b, off, A', c', rfl, hb, c0, hc', _⟩ := hrows j l hlj
          have hts := tot_take_succ M j l hlj
          have hll := tot_mem (List.mem_of_getElem? hlj)
          have hl30 : l.length ≤ 30 := by rw [HT.out] at hll; omega
          obtain ⟨t, ht⟩ : ∃ t, tot (M.take j) = t := ⟨_, rfl⟩
          rw [ht] at hts hle ⊢
          have HTS := Lib.hid hts
          have HTT := Lib.hid ht
          have j0 : (0 : Int) ≤ (j : Int) := by omega
          have j1 : (j : Int) < (M.length : Int) := by omega
          clear hrows hlj hts hll ht
          by_cases hq : (k : Int) - (t : Int) < (l.length : Int)
          · go_wp2_with fail
            go_ret2
            refine ⟨ret_ib ?_ (dc_true HGI.out).symm, hBF⟩
            rw [grpR_yes HGI.out, HO.out j hk (by rw [HTT.out]; exact hle) (by rw [HTS.out]; omega)]
          · go_wp2_with fail
            go_round
            case rel => exact ⟨j + 1, by omega, by go_num, by rw [HTS.out]; congr 1; omega, by rw [HTS.out]; omega⟩
            case measure => simp [intOf]; omega
        · exfalso
          obtain rfl : j = M.length := by omega
          rw [List.take_of_length_le (Nat.le_refl _), HT.out] at hle
          omega
    · have hin' : inB kk 0 ((L.length : Int) - 1) = false := by
        cases e : inB kk 0 ((L.length : Int) - 1) with
        | false => rfl
        | true => have := inB_iff.1 e; omega
      rw [hin'] at CL
      have hGI : ¬ GrpIn W H L kk := fun h => hin ⟨h.2.1, h.2.2⟩
      have HGI := Lib.hid hGI
      clear hin hGI hin'
      go_wp2_with fail
      refine CL.mono ?_
      rintro e w2 ⟨rfl, rfl⟩
      clear CL
      go_wp2_with fail
      go_ret2
      exact ⟨ret_ib (grpR_no HGI.out).symm (dc_false HGI.out).symm, hB1⟩
  · have hGI : ¬ GrpIn W H L kk := fun h => hG h.1
    have HGI := Lib.hid hGI
    clear hGI
    go_enter Try.func41, Try.ntmps41
    go_wp2_with fail
    refine (callB_no (cuGood_any W H A _ c L _ rfl hc ((hL.below (hb0 _)).mono (hb0 _).size)) hG).mono ?_
    rintro e w1 ⟨rfl, hb1⟩
    go_wp2_with fail
    go_ret2
    exact ⟨ret_ib (grpR_no HGI.out).symm (dc_false HGI.out).symm, (hb0 _).trans (hb1.mono (hb0 _).size)⟩

set_option maxRecDepth 100000 in
set_option maxHeartbeats 8000000 in
theorem implGroup_any (W H : Int) (A : Option Addr) (n c : Nat) (L : List Sq) (kk : Int) (w : World) (hl : L.length = n) (hc : n ≤ c) (hL : SqsAt w w.heap.size A L) (hwf : ∀ s ∈ L, wfS s) :
    Calls Try.prog 42 #[.agg #[.int .i64 W, .int .i64 H, .slice A n c], .int .i64 kk] w (RetGrp w W H L kk) := by
  subst hl
  have hb0 : ∀ o : Obj, Below w.heap.size w (w.alloc o) := fun o => (Below.refl _ _).alloc (Nat.le_refl _) o
  have Z0 : Box w.heap.size w (w.alloc (.cells #[.int .i64 W, .int .i64 H, .slice A L.length c] 31)) W H A c L := Box.start hL
  by_cases hG : Good W H L
  · have hg30 := hG.2.2.1.2
    have hg1 := hG.2.2.1.1
    have hfine := good_fine hG
    have HG := Lib.hid hG
    go_enter Try.func42, Try.ntmps42
    go_wp2_with fail
    refine (callB_yes (isCut_good W H A _ c L _ rfl hc ((hL.below (hb0 _)).mono (hb0 _).size) hwf) hG).mono ?_
    rintro e w1 ⟨rfl, hb1⟩
    have Z1 := Z0.next hb1
    obtain ⟨hB1, hz1, b0, b1, b2, hL1⟩ := id Z1
    clear Z0 hb1 hb0 hG
    by_cases hlo : 0 ≤ kk
    · by_cases hhi : kk < L.length
      · obtain ⟨k, rfl⟩ : ∃ k : Nat, kk = k := ⟨kk.toNat, by omega⟩
        have hk : k < L.length := by omega
        obtain ⟨s0, hs0⟩ : ∃ s, L[k]? = some s := ⟨_, List.getElem?_eq_getElem hk⟩
        obtain ⟨b, off, rfl, hb, _⟩ := hL1 k s0 hs0
        have HGI : Hid (GrpIn W H L k) := Lib.hid ⟨HG.out, by omega, by omega⟩
        have k0 : (0 : Int) ≤ (k : Int) + 1 := by omega
        have k1 : (k : Int) + 1 ≤ (L.length : Int) := by omega
        have k2 : ((k : Int) + 1).toNat = k + 1 := by omega
        have k3 : (k : Int) + 1 ≤ (c : Int) := by omega
        have hlt : (L.take (k + 1)).length = k + 1 := by rw [List.length_take]; omega
        have HLT := Lib.hid hlt
        clear hs0 hlt
        go_wp2_with fail
        refine (groupsOf_any (some ⟨b, off, none⟩) (k + 1) c (L.take (k + 1)) _ HLT.out (by omega) ((hL1.take _).mono hB1.size) (fun s hs => hfine s (List.mem_of_mem_take hs))).mono ?_
        rintro e w2 ⟨A2, c2, G, rfl, hGG, hO, hb2⟩
        have hlen : G.length = grpAt L k + 1 := by
          have e2 := congrArg List.length hGG
          simp only [asG, List.length_map] at e2
          unfold grpAt
          obtain ⟨P, l, hP⟩ := grps_last L k _ (List.getElem?_eq_getElem hk)
          rw [e2, hP]; simp
        have hgr := (grpAt_in L k hk).1
        have hbd := (grps_bd L L.length).1
        rw [List.take_of_length_le (Nat.le_refl _)] at hbd
        have hYE := grpR_yes HGI.out
        obtain ⟨ga, hga⟩ : ∃ g, grpAt L k = g := ⟨_, rfl⟩
        rw [hga] at hlen hgr hYE
        have HYE := Lib.hid hYE
        have hBF := hB1.trans (hb2.mono hB1.size)
        have em : (((ga + 1 : Nat) : Int) - 1) = (ga : Int) := by omega
        clear hGG hO hYE hga Z1 hL1 b0 b1 b2 hL hb2 hfine
        rw [hlen]
        clear hlen
        go_wp2_with fail
        go_ret2
        exact ⟨ret_ib (by rw [HYE.out]) (dc_true HGI.out).symm, hBF⟩
      · have HGI : Hid (¬ GrpIn W H L kk) := Lib.hid fun h => hhi h.2.2
        have hhi' : (L.length : Int) ≤ kk := by omega
        go_wp2_with fail
        go_ret2
        exact ⟨ret_ib (grpR_no HGI.out).symm (dc_false HGI.out).symm, hB1⟩
    · have HGI : Hid (¬ GrpIn W H L kk) := Lib.hid fun h => hlo h.2.1
      have hlo' : kk < 0 := by omega
      go_wp2_with fail
      go_ret2
      exact ⟨ret_ib (grpR_no HGI.out).symm (dc_false HGI.out).symm, hB1⟩
  · have hGI : ¬ GrpIn W H L kk := fun h => hG h.1
    have HGI := Lib.hid hGI
    clear hGI
    go_enter Try.func42, Try.ntmps42
    go_wp2_with fail
    refine (callB_no (isCut_good W H A _ c L _ rfl hc ((hL.below (hb0 _)).mono (hb0 _).size) hwf) hG).mono ?_
    rintro e w1 ⟨rfl, hb1⟩
    go_wp2_with fail
    go_ret2
    exact ⟨ret_ib (grpR_no HGI.out).symm (dc_false HGI.out).symm, (hb0 _).trans (hb1.mono (hb0 _).size)⟩
end Go.Proofs.Ytmjdmedlkcmgiaa
