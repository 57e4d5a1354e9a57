/- The model's CutOfCode. -/
import Derived.Test.YtfkifcjjkaenhaaGreatDoorCodeQ
import Derived.Test.YtfkifcjjkaenhaaGreatDoorCodeS
import Derived.Test.YtfkifcjjkaenhaaGreatDoorFillS
import Derived.Test.YtfkifcjjkaenhaaGreatDoorSame
set_option linter.all false
namespace Go.Proofs.YtfkifcjjkaenhaaGreatDoor
open Go.RowKit

set_option maxRecDepth 100000 in
set_option maxHeartbeats 16000000 in
theorem bkCut_any (A : Option Addr) (n c : Nat) (M : List (List Int)) (w : World) (hl : M.length = n) (hn : n ≤ 1048576) (hM : RowsZ w w.heap.size A M) :
    Calls Tryz.prog 21 #[.slice A n c] w (RetCode w M) := by
  subst hl
  obtain ⟨W1, hW1⟩ : ∃ W1, W1 = w.alloc (.cells #[.int .i64 0, .int .i64 0, .slice none 0 0] 43) := ⟨_, rfl⟩
  have q1 : Bx w.heap.size W1 0 0 none 0 0 := by rw [hW1]; exact Bx.start _ _ _ _ _ _ _
  have qf : ∀ o, W1.frozen? ⟨w.heap.size, o, none⟩ = false := by intro o; rw [hW1]; exact World.frozen?_alloc_at _ _ _ _ rfl
  have hB1 : Below w.heap.size w W1 := by rw [hW1]; exact (Below.refl _ _).alloc (Nat.le_refl _) _
  have hM1 : RowsZ W1 W1.heap.size A M := (hM.below hB1).mono hB1.size
  by_cases h30 : 1 ≤ (M.length : Int) ∧ (M.length : Int) ≤ 30
  · have d1 := Lib.hid (inB_iff.2 h30)
    go_enter Tryz.func21, Tryz.ntmps21
    go_wp2_with fail
    rw [← hW1]
    refine (l1In_any _ _ _ _).mono ?_
    rw [d1.out]
    rintro e w' ⟨rfl, rfl⟩
    clear hW1 hM
    go_wp2_with fail
    go_loopw [4, 19] (fun v i wr => ∃ k : Nat, k ≤ M.length ∧ i = .int .i64 k ∧ v = .int .i64 (((M.take k).flatten.length : Nat) : Int) ∧ Below W1.heap.size W1 wr ∧ ∀ (j : Nat) l, j < k → M[j]? = some l → (1 ≤ l.length ∧ l.length ≤ 30) ∧ ∀ s ∈ l, 1 ≤ s ∧ s ≤ 500) (fun _ i _ => M.length - (intOf i).toNat)
    case atStart => exact ⟨0, Nat.zero_le _, rfl, rfl, Below.refl _ _, fun j l hj => by omega⟩
    case round =>
      obtain ⟨k, hk, rfl, rfl, hbr, hin⟩ := hrel
      have HI := Lib.hid hin
      clear hin
      have hMr := (hM1.below hbr).mono hbr.size
      have q2 := q1.next hbr
      have qf2 : ∀ o, wr.frozen? ⟨w.heap.size, o, none⟩ = false := fun o => (hbr.frozen (p := ⟨w.heap.size, o, none⟩) q1.lt).trans (qf o)
      have hB2 := hB1.trans (hbr.mono hB1.size)
      have hcb : (M.take k).flatten.length ≤ 30 * k := by
        have := flat_bd (M := M.take k) (fun l hl => by
          obtain ⟨j, hj, e⟩ := List.mem_iff_getElem.1 hl
          have hj2 : j < k := by rw [List.length_take] at hj; omega
          rw [List.getElem_take] at e
          exact (HI.out j l hj2 (by rw [List.getElem?_eq_getElem (by omega), e])).1.2)
        rw [List.length_take] at this
        omega
      by_cases hlt : k < M.length
      · obtain ⟨l, hs⟩ : ∃ l, M[k]? = some l := ⟨_, List.getElem?_eq_getElem hlt⟩
        obtain ⟨b, off, A2, c2, rfl, hb, d0, hlc, hI, _⟩ := hMr k l hs
        have k0 : (0 : Int) ≤ (k : Int) := by omega
        have k1 : (k : Int) < (M.length : Int) := by omega
        have htk := congrArg List.length (cat_take M k l hs)
        rw [List.length_append] at htk
        obtain ⟨s, hse⟩ : ∃ s, (M.take k).flatten.length = s := ⟨_, rfl⟩
        rw [hse] at htk hcb ⊢
        have HK := Lib.hid htk
        have HS := Lib.hid hs
        clear hs htk hM1 hMr hse
        by_cases hl30 : 1 ≤ (l.length : Int) ∧ (l.length : Int) ≤ 30
        · have d2 := Lib.hid (inB_iff.2 hl30)
          by_cases hal : ∀ s ∈ l, 1 ≤ s ∧ s ≤ 500
          · have w1 : IntKind.i64.wrap ((s : Int) + (l.length : Int)) = (s : Int) + (l.length : Int) := IntWalk.i64_in _ (by omega)
            go_wp2_with fail
            refine (l1In_any _ _ _ _).mono ?_
            rw [d2.out]
            rintro e w' ⟨rfl, rfl⟩
            go_wp2_with fail
            refine (callB_yes (l1All_any A2 _ c2 l 1 500 wr rfl (by omega) hI) hal).mono ?_
            rintro e w3 ⟨rfl, hb3⟩
            have hB3 := hbr.trans (hb3.mono hbr.size)
            clear q2 qf2 hB2 q1 qf hB1
            go_wp2_with fail
            go_roundw
            case rel =>
              refine ⟨k + 1, by omega, by go_num, by rw [HK.out]; go_num, hB3, fun j q hj hq => ?_⟩
              by_cases e : j = k
              · subst e
                obtain rfl := Option.some.inj (HS.out.symm.trans hq)
                exact ⟨by omega, hal⟩
              · exact HI.out j q (by omega) hq
            case measure => simp [intOf]; omega
          · have HNO := Lib.hid (codeR_bad (M := M) fun h => hal (h.2.2 l (List.mem_of_getElem? HS.out)).2)
            go_wp2_with fail
            refine (l1In_any _ _ _ _).mono ?_
            rw [d2.out]
            rintro e w' ⟨rfl, rfl⟩
            go_wp2_with fail
            refine (callB_no (l1All_any A2 _ c2 l 1 500 wr rfl (by omega) hI) hal).mono ?_
            rintro e w3 ⟨rfl, hb3⟩
            have t0 := (hb3.frozen (p := ⟨w.heap.size, 0, none⟩) q2.lt).trans (qf2 0)
            have t1 := (hb3.frozen (p := ⟨w.heap.size, 1, none⟩) q2.lt).trans (qf2 1)
            have t2 := (hb3.frozen (p := ⟨w.heap.size, 2, none⟩) q2.lt).trans (qf2 2)
            obtain ⟨_, r0, r1, r2⟩ := id (q2.next hb3)
            have hB3 := hB2.trans (hb3.mono hB2.size)
            clear q1 q2 qf qf2 hb3 hbr hB1 hB2 hal
            go_wp2_with fail
            have hB := (((hB3.setCell (p := ⟨w.heap.size, 0, none⟩) (Nat.le_refl _) (.int .i64 0)).setCell (p := ⟨w.heap.size, 1, none⟩) (Nat.le_refl _) (.int .i64 0)).setCell (p := ⟨w.heap.size, 2, none⟩) (Nat.le_refl _) (.slice none 0 0))
            refine bodyPost_ret (v := .tuple #[.agg #[.int .i64 0, .int .i64 0, .slice none 0 0], .bool false]) (by simp [results, Tryz.results21, go_sem, r0, r1, r2]) rfl ?_
            first | exact RetCode.no (HNO.out) hB | exact RetCode.no (HNO.out) hB3
        · have HNO := Lib.hid (codeR_bad (M := M) fun h => hl30 (by have := (h.2.2 l (List.mem_of_getElem? HS.out)).1; omega))
          have d2 : Hid (inB (l.length : Int) 1 30 = false) := Lib.hid (by cases e : inB (l.length : Int) 1 30 with | false => rfl | true => exact absurd (inB_iff.1 e) hl30)
          obtain ⟨_, r0, r1, r2⟩ := id q2
          have t0 := qf2 0
          have t1 := qf2 1
          have t2 := qf2 2
          clear q1 q2 qf qf2 hbr hB1
          go_wp2_with fail
          refine (l1In_any _ _ _ _).mono ?_
          rw [d2.out]
          rintro e w' ⟨rfl, rfl⟩
          go_wp2_with fail
          have hB := (((hB2.setCell (p := ⟨w.heap.size, 0, none⟩) (Nat.le_refl _) (.int .i64 0)).setCell (p := ⟨w.heap.size, 1, none⟩) (Nat.le_refl _) (.int .i64 0)).setCell (p := ⟨w.heap.size, 2, none⟩) (Nat.le_refl _) (.slice none 0 0))
          refine bodyPost_ret (v := .tuple #[.agg #[.int .i64 0, .int .i64 0, .slice none 0 0], .bool false]) (by simp [results, Tryz.results21, go_sem, r0, r1, r2]) rfl ?_
          first | exact RetCode.no (HNO.out) hB | exact RetCode.no (HNO.out) hB2
      · obtain rfl : k = M.length := by omega
        rw [List.take_of_length_le (Nat.le_refl _)] at hcb ⊢
        obtain ⟨d, hdd⟩ : ∃ d, M.flatten = d := ⟨_, rfl⟩
        have HD := Lib.hid hdd
        rw [hdd] at hcb ⊢
        have HFL : Hid (M.flatten.length ≤ 30 * M.length) := Lib.hid (by rw [hdd]; exact hcb)
        clear hdd
        have hM2 := hMr
        clear hMr hM1 q1 qf hbr hB1
        by_cases hc30 : d.length ≤ 30
        · have e3 : decide ((30 : Int) < (d.length : Int)) = false := by rw [decide_eq_false_iff_not]; omega
          have e4 : decide (30 < d.length) = false := by rw [decide_eq_false_iff_not]; omega
          obtain ⟨l0, hl0⟩ : ∃ l0, M[0]? = some l0 := ⟨_, List.getElem?_eq_getElem (by omega)⟩
          have hhd : M.headD [] = l0 := by cases M with | nil => simp at hl0 | cons a r => simpa using hl0
          have hl30 := (HI.out 0 l0 (by omega) hl0).1.2
          have HMh := Lib.hid hhd
          have HSH : Hid (∀ l ∈ M, l.length ≤ 30) := Lib.hid fun l hl => by
            obtain ⟨j, hj, e⟩ := List.mem_iff_getElem.1 hl
            exact (HI.out j l hj (by rw [List.getElem?_eq_getElem hj, e])).1.2
          clear hhd
          obtain ⟨w2, rfl⟩ : ∃ w2 : World, w2 = wr := ⟨_, rfl⟩
          obtain ⟨b, off, A0, c0, rfl, hb, d0, hlc, hI0, _⟩ := hM2 0 l0 hl0
          rw [Nat.add_zero] at d0
          have m0 : (0 : Int) < (M.length : Int) := by omega
          clear hl0
          go_wp2_with fail
          go_loopw [7, 45] (fun v i wr => ∃ k : Nat, k ≤ l0.length ∧ i = .int .i64 k ∧ v = .int .i64 (wsum (l0.take k)) ∧ Below w2.heap.size w2 wr) (fun _ i _ => l0.length - (intOf i).toNat)
          case atStart => exact ⟨0, Nat.zero_le _, rfl, rfl, Below.refl _ _⟩
          case round =>
            obtain ⟨k, hk, rfl, rfl, hbr⟩ := hrel
            by_cases hlt : k < l0.length
            · obtain ⟨s, hs⟩ : ∃ s, l0[k]? = some s := ⟨_, List.getElem?_eq_getElem hlt⟩
              obtain ⟨b2, off2, rfl, hb2, f0⟩ := (hI0.below hbr) k s hs
              have k0 : (0 : Int) ≤ (k : Int) := by omega
              have k1 : (k : Int) < (l0.length : Int) := by omega
              have HW := Lib.hid (wsum_succ l0 k s hs)
              obtain ⟨z, hz⟩ : ∃ z, wsum (l0.take k) = z := ⟨_, rfl⟩
              rw [hz] at HW ⊢
              clear hs hM2 hI0 hz
              go_wp2_with fail
              go_roundw
              case rel => exact ⟨k + 1, by omega, by go_num, by rw [HW.out], hbr⟩
              case measure => simp [intOf]; omega
            · obtain rfl : k = l0.length := by omega
              rw [List.take_of_length_le (Nat.le_refl _)]
              have hMr := (hM2.below hbr).mono hbr.size
              have q3 := q2.next hbr
              have qf3 : ∀ o, wr.frozen? ⟨w.heap.size, o, none⟩ = false := fun o => (hbr.frozen (p := ⟨w.heap.size, o, none⟩) q2.lt).trans (qf2 o)
              have hB3 := hB2.trans (hbr.mono hB2.size)
              clear q2 qf2 hM2 hI0 hbr hB2
              go_wp2_with fail
              have hcc := bkSides_any _ _ c M wr rfl hn (by have := HFL.out; omega) hMr
              rw [HD.out] at hcc
              refine hcc.mono ?_
              rintro e w4 ⟨A4, c4, rfl, o4, hb4⟩
              have q4 := q3.next hb4
              have qf4 : ∀ o, w4.frozen? ⟨w.heap.size, o, none⟩ = false := fun o => (hb4.frozen (p := ⟨w.heap.size, o, none⟩) q3.lt).trans (qf3 o)
              have hB4 := hB3.trans (hb4.mono hB3.size)
              have hM4 := (hMr.below hb4).mono hb4.size
              have I4 := ints_of_own o4
              clear q3 qf3 hMr hb4 hB3 o4
              go_wp2_with fail
              refine (bkFill_any (wsum l0) A4 d.length c4 d w4 rfl (by have := HFL.out; have := HD.out; subst this; omega) I4).mono ?_
              rintro e w5 hret
              unfold RetFill at hret
              obtain ⟨X, hX⟩ : ∃ X, (if (fillR (wsum l0) d).2.2 then wsum l0 else 0) = X := ⟨_, rfl⟩
              obtain ⟨H, hH⟩ : ∃ H, (fillR (wsum l0) d).1 = H := ⟨_, rfl⟩
              obtain ⟨L, hL⟩ : ∃ L, (fillR (wsum l0) d).2.1 = L := ⟨_, rfl⟩
              obtain ⟨ok, hK⟩ : ∃ ok, (fillR (wsum l0) d).2.2 = ok := ⟨_, rfl⟩
              have hno1 : ok = false → codeR M = (0, 0, [], false) := fun h => codeR_not (by rw [HMh.out, HD.out, hK, h])
              have hno2 : glists (grps L) ≠ M → codeR M = (0, 0, [], false) := fun h => codeR_ne (by rw [HMh.out, HD.out, hL]; exact h)
              have hyes : ok = true → glists (grps L) = M → codeR M = (X, H, L, true) := fun h h2 => by
                have := codeR_yes (M := M) (by rw [HMh.out, HD.out, hK, h]) (by rw [HMh.out, HD.out, hL]; exact h2)
                rw [HMh.out, HD.out, hH, hL] at this
                rw [this, ← hX, hK, h]; rfl
              have hgood : ok = true → Good (wsum l0) H L := fun h => by
                have := fillR_good (W := wsum l0) (d := d) (by rw [hK, h])
                rwa [hH, hL] at this
              rw [hX, hH, hL, hK] at hret
              have HN1 := Lib.hid hno1
              have HN2 := Lib.hid hno2
              have HY := Lib.hid hyes
              have HG := Lib.hid hgood
              clear hX hH hL hK hno1 hno2 hyes hgood I4
              obtain ⟨A5, c5, rfl, o5, hb5⟩ := hret
              have q5 := q4.next hb5
              have qf5 : ∀ o, w5.frozen? ⟨w.heap.size, o, none⟩ = false := fun o => (hb5.frozen (p := ⟨w.heap.size, o, none⟩) q4.lt).trans (qf4 o)
              have hB5 := hB4.trans (hb5.mono hB4.size)
              have hM5 := (hM4.below hb5).mono hb5.size
              have o5 : w5.ownsRow (w.heap.size + 1) 71 3 (.slice A5 L.length c5) L.length (flat L) := own_base o5 q4.lt
              clear q4 qf4 hM4 hb5 hB4
              cases ok
              · have HNO := Lib.hid (HN1.out rfl)
                obtain ⟨_, r0, r1, r2⟩ := id q5
                have t0 := qf5 0
                have t1 := qf5 1
                have t2 := qf5 2
                have hq5 := q5.lt
                clear q5 qf5 hM5 o5
                go_wp2_with fail
                refine bodyPost_ret (v := .tuple #[.agg #[.int .i64 0, .int .i64 0, .slice none 0 0], .bool false]) (by simp [results, Tryz.results21, go_sem, r0, r1, r2, World.cell?_alloc_lt, hq5]) rfl ?_
                refine RetCode.no HNO.out ?_
                have hzz := hB5.size
                repeat (first | exact hB5 | refine Below.setCell ?_ (by simp) _ | refine Below.alloc ?_ (by simp; omega) _)
              · have hG := HG.out rfl
                have hfine := good_fine hG
                have hg30 := hG.2.2.1.2
                have HGd := Lib.hid hG
                have HTT := Lib.hid (HY.out rfl)
                clear hG
                go_wp2_with fail
                obtain ⟨w6, hw6⟩ : ∃ w6, w6 = w5.alloc (.cells #[.int .i64 X, .int .i64 H, .slice A5 L.length c5] 43) := ⟨_, rfl⟩
                have b6 : Bx w5.heap.size w6 X H A5 L.length c5 := by rw [hw6]; exact Bx.start _ _ _ _ _ _ _
                have hb6 : Below w5.heap.size w5 w6 := by rw [hw6]; exact (Below.refl _ _).alloc (Nat.le_refl _) _
                rw [← hw6]
                have q6 := q5.next hb6
                have qf6 : ∀ o, w6.frozen? ⟨w.heap.size, o, none⟩ = false := fun o => (hb6.frozen (p := ⟨w.heap.size, o, none⟩) q5.lt).trans (qf5 o)
                have hB6 := hB5.trans (hb6.mono hB5.size)
                have hM6 := (hM5.below hb6).mono hb6.size
                have o6 := own_keep o5 hb6
                clear q5 qf5 hB5 hM5 o5 hb6 hw6
                refine (bkCode_any X H A5 L.length c5 L w6 rfl hg30 (sqs_of_own o6) hfine).mono ?_
                rintro e w8 ⟨A8, c8, R8, rfl, hR8, hO8, hb8⟩
                have hrows := hO8.rows
                rw [hR8] at hrows
                have b8 := b6.next hb8
                have q8 := q6.next hb8
                have qf8 : ∀ o, w8.frozen? ⟨w.heap.size, o, none⟩ = false := fun o => (hb8.frozen (p := ⟨w.heap.size, o, none⟩) q6.lt).trans (qf6 o)
                have hB8 := hB6.trans (hb8.mono hB6.size)
                have hM8 := (hM6.below hb8).mono hb8.size
                have o8 := own_keep o6 hb8
                have hgl2 := (grps_bd L L.length)
                rw [List.take_of_length_le (Nat.le_refl _)] at hgl2
                have hlg : (glists (grps L)).length ≤ 30 := by simp only [glists, List.length_map]; omega
                have htl : ∀ l ∈ glists (grps L), l.length ≤ 1048576 := fun l hl => by
                  have h1 := tot_mem hl
                  omega
                clear q6 qf6 hB6 hM6 o6 hb8 b6 hO8 hR8 hgl2 hfine
                obtain ⟨GM, hGM⟩ : ∃ GM, glists (grps L) = GM := ⟨_, rfl⟩
                rw [hGM] at hrows hlg htl HTT HN2 ⊢
                clear hGM
                go_wp2_with fail
                have heq := bkRows_any A8 (some ⟨b, off, none⟩) GM.length M.length c8 c GM M w8 rfl rfl (by omega) hn htl (fun l hl => by have := HSH.out l hl; omega) hrows hM8.rows
                by_cases hsame : GM = M
                · have HSA := Lib.hid hsame
                  clear hsame hrows hM8 htl hlg
                  refine (callB_yes heq HSA.out).mono ?_
                  rintro e w9 ⟨rfl, hb9⟩
                  have b9 := b8.next hb9
                  have q9 := q8.next hb9
                  have o9 := own_keep o8 hb9
                  have t0 := (hb9.frozen (p := ⟨w.heap.size, 0, none⟩) q8.lt).trans (qf8 0)
                  have t1 := (hb9.frozen (p := ⟨w.heap.size, 1, none⟩) q8.lt).trans (qf8 1)
                  have t2 := (hb9.frozen (p := ⟨w.heap.size, 2, none⟩) q8.lt).trans (qf8 2)
                  have hB9 := hB8.trans (hb9.mono hB8.size)
                  obtain ⟨_, x0, x1, x2⟩ := id b9
                  obtain ⟨_, r0, r1, r2⟩ := id q9
                  clear b8 b9 q8 q9 qf8 o8 hb9 heq hB8
                  go_wp2_with fail
                  have hB := ((hB9.setCell (p := ⟨w.heap.size, 0, none⟩) (Nat.le_refl _) (.int .i64 X)).setCell (p := ⟨w.heap.size, 1, none⟩) (Nat.le_refl _) (.int .i64 H)).setCell (p := ⟨w.heap.size, 2, none⟩) (Nat.le_refl _) (.slice A5 L.length c5)
                  have R := ownsRow_setCell_below (ownsRow_setCell_below (ownsRow_setCell_below o9 (a := ⟨w.heap.size, 0, none⟩) (Nat.lt_succ_self _) (.int .i64 X)) (a := ⟨w.heap.size, 1, none⟩) (Nat.lt_succ_self _) (.int .i64 H)) (a := ⟨w.heap.size, 2, none⟩) (Nat.lt_succ_self _) (.slice A5 L.length c5)
                  refine bodyPost_ret (v := .tuple #[.agg #[.int .i64 X, .int .i64 H, .slice A5 L.length c5], .bool true]) (by simp [results, Tryz.results21, go_sem, r0, r1, r2]) rfl ?_
                  exact RetCode.yes (HTT.out HSA.out) rfl (own_base R (Nat.le_succ _)) hB
                · have HNO := Lib.hid (HN2.out hsame)
                  refine (callB_no heq hsame).mono ?_
                  rintro e w9 ⟨rfl, hb9⟩
                  have q9 := q8.next hb9
                  have t0 := (hb9.frozen (p := ⟨w.heap.size, 0, none⟩) q8.lt).trans (qf8 0)
                  have t1 := (hb9.frozen (p := ⟨w.heap.size, 1, none⟩) q8.lt).trans (qf8 1)
                  have t2 := (hb9.frozen (p := ⟨w.heap.size, 2, none⟩) q8.lt).trans (qf8 2)
                  have hB9 := hB8.trans (hb9.mono hB8.size)
                  obtain ⟨_, r0, r1, r2⟩ := id q9
                  clear b8 q8 q9 qf8 o8 hb9 heq hB8 hsame hrows hM8 htl hlg
                  go_wp2_with fail
                  have hB := (((hB9.setCell (p := ⟨w.heap.size, 0, none⟩) (Nat.le_refl _) (.int .i64 0)).setCell (p := ⟨w.heap.size, 1, none⟩) (Nat.le_refl _) (.int .i64 0)).setCell (p := ⟨w.heap.size, 2, none⟩) (Nat.le_refl _) (.slice none 0 0))
                  refine bodyPost_ret (v := .tuple #[.agg #[.int .i64 0, .int .i64 0, .slice none 0 0], .bool false]) (by simp [results, Tryz.results21, go_sem, r0, r1, r2]) rfl ?_
                  first | exact RetCode.no (HNO.out) hB | exact RetCode.no (HNO.out) hB9
        · have e3 : decide ((30 : Int) < (d.length : Int)) = true := by rw [decide_eq_true_iff]; omega
          have e4 : decide (30 < d.length) = true := by rw [decide_eq_true_iff]; omega
          have HNO := Lib.hid (codeR_bad (M := M) fun h => hc30 (by rw [← HD.out]; exact h.2.1))
          obtain ⟨_, r0, r1, r2⟩ := id q2
          have t0 := qf2 0
          have t1 := qf2 1
          have t2 := qf2 2
          clear q2 qf2 hM2
          go_wp2_with fail
          have hB := (((hB2.setCell (p := ⟨w.heap.size, 0, none⟩) (Nat.le_refl _) (.int .i64 0)).setCell (p := ⟨w.heap.size, 1, none⟩) (Nat.le_refl _) (.int .i64 0)).setCell (p := ⟨w.heap.size, 2, none⟩) (Nat.le_refl _) (.slice none 0 0))
          refine bodyPost_ret (v := .tuple #[.agg #[.int .i64 0, .int .i64 0, .slice none 0 0], .bool false]) (by simp [results, Tryz.results21, go_sem, r0, r1, r2]) rfl ?_
          first | exact RetCode.no (HNO.out) hB | exact RetCode.no (HNO.out) hB2
  · have HNO := Lib.hid (codeR_bad (M := M) fun h => h30 (by omega))
    have d1 : Hid (inB (M.length : Int) 1 30 = false) := Lib.hid (by cases e : inB (M.length : Int) 1 30 with | false => rfl | true => exact absurd (inB_iff.1 e) h30)
    obtain ⟨_, r0, r1, r2⟩ := id q1
    have t0 := qf 0
    have t1 := qf 1
    have t2 := qf 2
    clear hM hM1
    go_enter Tryz.func21, Tryz.ntmps21
    go_wp2_with fail
    rw [← hW1]
    refine (l1In_any _ _ _ _).mono ?_
    rw [d1.out]
    rintro e w' ⟨rfl, rfl⟩
    clear hW1
    go_wp2_with fail
    have hB := (((hB1.setCell (p := ⟨w.heap.size, 0, none⟩) (Nat.le_refl _) (.int .i64 0)).setCell (p := ⟨w.heap.size, 1, none⟩) (Nat.le_refl _) (.int .i64 0)).setCell (p := ⟨w.heap.size, 2, none⟩) (Nat.le_refl _) (.slice none 0 0))
    refine bodyPost_ret (v := .tuple #[.agg #[.int .i64 0, .int .i64 0, .slice none 0 0], .bool false]) (by simp [results, Tryz.results21, go_sem, r0, r1, r2]) rfl ?_
    first | exact RetCode.no (HNO.out) hB | exact RetCode.no (HNO.out) hB1

end Go.Proofs.YtfkifcjjkaenhaaGreatDoor
