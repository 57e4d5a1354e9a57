/- The program's CutOfCode. -/
import Derived.Test.YtfkifcjjkaenhaaGreatDoorCodeP
set_option linter.all false
namespace Go.Proofs.YtfkifcjjkaenhaaGreatDoor
open Go.RowKit

set_option maxRecDepth 100000 in
set_option maxHeartbeats 1000000 in
theorem implCutCode_any (A : Option Addr) (n c : Nat) (M : List (List Int)) (w : World) (hl : M.length = n) (hn : n ≤ 1048576) (hM : RowsZ w w.heap.size A M) (hwf : ∀ l ∈ M, ∀ s ∈ l, wfI s) :
    Calls Tryz.prog 30 #[.slice A n c] w (RetCode w M) := by
  subst hl
  obtain ⟨W1, hW1⟩ : ∃ W1, W1 = w.alloc (.cells #[.int .i64 0, .int .i64 0, .slice none 0 0] 43) := ⟨_, rfl⟩
  have q1 : Bx w.heap.size W1 0 0 none 0 0 := by rw [hW1]; exact Bx.start _ _ _ _ _ _ _
  have qf : ∀ o, W1.frozen? ⟨w.heap.size, o, none⟩ = false := by intro o; rw [hW1]; exact World.frozen?_alloc_at _ _ _ _ rfl
  have hB1 : Below w.heap.size w W1 := by rw [hW1]; exact (Below.refl _ _).alloc (Nat.le_refl _) _
  have hM1 : RowsZ W1 W1.heap.size A M := (hM.below hB1).mono hB1.size
  by_cases h0 : M.length = 0
  · have hno := codeR_bad (M := M) fun h => by omega
    have e1 : ((M.length : Int) == 0) = true := by rw [h0]; rfl
    have e2 : (M.length == 0) = true := by rw [h0]; rfl
    obtain ⟨_, r0, r1, r2⟩ := id q1
    have t0 := qf 0
    have t1 := qf 1
    have t2 := qf 2
    have HNO := Lib.hid hno
    clear h0 hM hM1 hwf hno
    go_enter Tryz.func30, Tryz.ntmps30
    go_wp2_with fail
    try rw [← hW1]
    clear hW1
    try go_wp2_with fail
    have hB := (((hB1.setCell (p := ⟨w.heap.size, 0, none⟩) (Nat.le_refl _) (.int .i64 0)).setCell (p := ⟨w.heap.size, 1, none⟩) (Nat.le_refl _) (.int .i64 0)).setCell (p := ⟨w.heap.size, 2, none⟩) (Nat.le_refl _) (.slice none 0 0))
    refine bodyPost_ret (v := .tuple #[.agg #[.int .i64 0, .int .i64 0, .slice none 0 0], .bool false]) (by simp [results, Tryz.results30, go_sem, r0, r1, r2]) rfl ?_
    first | exact RetCode.no (HNO.out) hB | exact RetCode.no (HNO.out) hB1
  · have e1 : ((M.length : Int) == 0) = false := beq_eq_false_iff_ne.2 (by omega)
    have e2 : (M.length == 0) = false := by simpa using h0
    by_cases h30 : M.length ≤ 30
    · have e3 : decide ((30 : Int) < (M.length : Int)) = false := by rw [decide_eq_false_iff_not]; omega
      have e4 : decide (30 < M.length) = false := by rw [decide_eq_false_iff_not]; omega
      by_cases hlong : ∃ l ∈ M, 30 < l.length
      · have HNO := Lib.hid (codeR_bad (M := M) fun h => by obtain ⟨l, hl, h3⟩ := hlong; have := (h.2.2 l hl).1.2; omega)
        go_enter Tryz.func30, Tryz.ntmps30
        go_wp2_with fail
        try rw [← hW1]
        refine (callB_yes (containsLong_any A _ c M W1 rfl hn hM1.rows) hlong).mono ?_
        rintro e w2 ⟨rfl, hb2⟩
        have t0 := (hb2.frozen (p := ⟨w.heap.size, 0, none⟩) q1.lt).trans (qf 0)
        have t1 := (hb2.frozen (p := ⟨w.heap.size, 1, none⟩) q1.lt).trans (qf 1)
        have t2 := (hb2.frozen (p := ⟨w.heap.size, 2, none⟩) q1.lt).trans (qf 2)
        obtain ⟨_, r0, r1, r2⟩ := id (q1.next hb2)
        have hB2 := hB1.trans (hb2.mono hB1.size)
        clear q1 qf hb2 hM1 hW1 hB1 hM hlong
        go_wp2_with fail
        have hB := (((hB2.setCell (p := ⟨w.heap.size, 0, none⟩) (Nat.le_refl _) (.int .i64 0)).setCell (p := ⟨w.heap.size, 1, none⟩) (Nat.le_refl _) (.int .i64 0)).setCell (p := ⟨w.heap.size, 2, none⟩) (Nat.le_refl _) (.slice none 0 0))
        refine bodyPost_ret (v := .tuple #[.agg #[.int .i64 0, .int .i64 0, .slice none 0 0], .bool false]) (by simp [results, Tryz.results30, go_sem, r0, r1, r2]) rfl ?_
        first | exact RetCode.no (HNO.out) hB | exact RetCode.no (HNO.out) hB2
      · have hshort : ∀ l ∈ M, l.length ≤ 30 := fun l hl => by
          apply Classical.byContradiction
          intro h
          exact hlong ⟨l, hl, by omega⟩
        have hfl := flat_bd hshort
        obtain ⟨l0, hl0⟩ : ∃ l0, M[0]? = some l0 := ⟨_, List.getElem?_eq_getElem (by omega)⟩
        have hhd : M.headD [] = l0 := by cases M with | nil => simp at hl0 | cons a r => simpa using hl0
        have hl30 := hshort l0 (List.mem_of_getElem? hl0)
        have HMh := Lib.hid hhd
        have HFL := Lib.hid hfl
        have HSH := Lib.hid hshort
        have hfwf : ∀ s ∈ M.flatten, wfI s := fun s hs => by obtain ⟨l, h1, h2⟩ := List.mem_flatten.1 hs; exact hwf l h1 s h2
        have HFW := Lib.hid hfwf
        obtain ⟨d, hdd⟩ : ∃ d, M.flatten = d := ⟨_, rfl⟩
        have HD := Lib.hid hdd
        clear hdd
        clear hfl hhd hwf hfwf hshort hM
        go_enter Tryz.func30, Tryz.ntmps30
        go_wp2_with fail
        try rw [← hW1]
        refine (callB_no (containsLong_any A _ c M W1 rfl hn hM1.rows) hlong).mono ?_
        rintro e w2 ⟨rfl, hb2⟩
        have q2 := q1.next hb2
        have qf2 : ∀ o, w2.frozen? ⟨w.heap.size, o, none⟩ = false := fun o => (hb2.frozen (p := ⟨w.heap.size, o, none⟩) q1.lt).trans (qf o)
        have hB2 := hB1.trans (hb2.mono hB1.size)
        have hM2 := (hM1.below hb2).mono hb2.size
        clear q1 qf hb2 hM1 hW1 hB1 hlong
        obtain ⟨b, off, A0, c0, rfl, hb, d0, hlc, hI0, _⟩ := hM2 0 l0 hl0
        rw [Nat.add_zero] at d0
        have m0 : (0 : Int) < (M.length : Int) := by omega
        clear hl0
        go_wp2_with fail
        go_loopw [4, 26] (fun v i wr => ∃ k : Nat, k ≤ l0.length ∧ i = .int .i64 k ∧ v = .int .i64 (wsum (l0.take k)) ∧ Below w2.heap.size w2 wr) (fun _ i _ => l0.length - (intOf i).toNat)
        case atStart => exact ⟨0, Nat.zero_le _, rfl, rfl, Below.refl _ _⟩
        case round =>
          obtain ⟨k, hk, rfl, rfl, hbr⟩ := hrel
          by_cases hlt : k < l0.length
          · obtain ⟨s, hs⟩ : ∃ s, l0[k]? = some s := ⟨_, List.getElem?_eq_getElem hlt⟩
            obtain ⟨b2, off2, rfl, hb2, f0⟩ := (hI0.below hbr) k s hs
            have k0 : (0 : Int) ≤ (k : Int) := by omega
            have k1 : (k : Int) < (l0.length : Int) := by omega
            have HW := Lib.hid (wsum_succ l0 k s hs)
            obtain ⟨z, hz⟩ : ∃ z, wsum (l0.take k) = z := ⟨_, rfl⟩
            rw [hz] at HW ⊢
            clear hs hM2 hI0 hz
            go_wp2_with fail
            go_roundw
            case rel => exact ⟨k + 1, by omega, by go_num, by rw [HW.out], hbr⟩
            case measure => simp [intOf]; omega
          · obtain rfl : k = l0.length := by omega
            rw [List.take_of_length_le (Nat.le_refl _)]
            have hMr := (hM2.below hbr).mono hbr.size
            have q3 := q2.next hbr
            have qf3 : ∀ o, wr.frozen? ⟨w.heap.size, o, none⟩ = false := fun o => (hbr.frozen (p := ⟨w.heap.size, o, none⟩) q2.lt).trans (qf2 o)
            have hB3 := hB2.trans (hbr.mono hB2.size)
            clear q2 qf2 hM2 hI0 hbr hB2
            go_wp2_with fail
            have hcc := concat_any _ _ c M wr rfl hn (by have := HFL.out; omega) hMr
            rw [HD.out] at hcc
            refine hcc.mono ?_
            rintro e w4 ⟨A4, c4, rfl, o4, hb4⟩
            have q4 := q3.next hb4
            have qf4 : ∀ o, w4.frozen? ⟨w.heap.size, o, none⟩ = false := fun o => (hb4.frozen (p := ⟨w.heap.size, o, none⟩) q3.lt).trans (qf3 o)
            have hB4 := hB3.trans (hb4.mono hB3.size)
            have hM4 := (hMr.below hb4).mono hb4.size
            have I4 := ints_of_own o4
            clear q3 qf3 hMr hb4 hB3 o4
            go_wp2_with fail
            refine (fillI_any (wsum l0) A4 d.length c4 d w4 rfl (by have := HFL.out; have := HD.out; subst this; omega) I4 (by have := HFW.out; rw [HD.out] at this; exact this)).mono ?_
            rintro e w5 hret
            unfold RetFill at hret
            obtain ⟨X, hX⟩ : ∃ X, (if (fillR (wsum l0) d).2.2 then wsum l0 else 0) = X := ⟨_, rfl⟩
            obtain ⟨H, hH⟩ : ∃ H, (fillR (wsum l0) d).1 = H := ⟨_, rfl⟩
            obtain ⟨L, hL⟩ : ∃ L, (fillR (wsum l0) d).2.1 = L := ⟨_, rfl⟩
            obtain ⟨ok, hK⟩ : ∃ ok, (fillR (wsum l0) d).2.2 = ok := ⟨_, rfl⟩
            have hno1 : ok = false → codeR M = (0, 0, [], false) := fun h => codeR_not (by rw [HMh.out, HD.out, hK, h])
            have hno2 : glists (grps L) ≠ M → codeR M = (0, 0, [], false) := fun h => codeR_ne (by rw [HMh.out, HD.out, hL]; exact h)
            have hyes : ok = true → glists (grps L) = M → codeR M = (X, H, L, true) := fun h h2 => by
              have := codeR_yes (M := M) (by rw [HMh.out, HD.out, hK, h]) (by rw [HMh.out, HD.out, hL]; exact h2)
              rw [HMh.out, HD.out, hH, hL] at this
              rw [this, ← hX, hK, h]; rfl
            have hgood : ok = true → Good (wsum l0) H L := fun h => by
              have := fillR_good (W := wsum l0) (d := d) (by rw [hK, h])
              rwa [hH, hL] at this
            rw [hX, hH, hL, hK] at hret
            have HN1 := Lib.hid hno1
            have HN2 := Lib.hid hno2
            have HY := Lib.hid hyes
            have HG := Lib.hid hgood
            clear hX hH hL hK hno1 hno2 hyes hgood I4
            obtain ⟨A5, c5, rfl, o5, hb5⟩ := hret
            have q5 := q4.next hb5
            have qf5 : ∀ o, w5.frozen? ⟨w.heap.size, o, none⟩ = false := fun o => (hb5.frozen (p := ⟨w.heap.size, o, none⟩) q4.lt).trans (qf4 o)
            have hB5 := hB4.trans (hb5.mono hB4.size)
            have hM5 := (hM4.below hb5).mono hb5.size
            have o5 : w5.ownsRow (w.heap.size + 1) 71 3 (.slice A5 L.length c5) L.length (flat L) := own_base o5 q4.lt
            clear q4 qf4 hM4 hb5 hB4
            cases ok
            · have HNO := Lib.hid (HN1.out rfl)
              obtain ⟨_, r0, r1, r2⟩ := id q5
              have t0 := qf5 0
              have t1 := qf5 1
              have t2 := qf5 2
              have hq5 := q5.lt
              clear q5 qf5 hM5 o5
              go_wp2_with fail
              refine bodyPost_ret (v := .tuple #[.agg #[.int .i64 0, .int .i64 0, .slice none 0 0], .bool false]) (by simp [results, Tryz.results30, go_sem, r0, r1, r2, World.cell?_alloc_lt, hq5]) rfl ?_
              refine RetCode.no HNO.out ?_
              have hzz := hB5.size
              repeat (first | exact hB5 | refine Below.setCell ?_ (by simp) _ | refine Below.alloc ?_ (by simp; omega) _)
            · have hG := HG.out rfl
              have hfine := good_fine hG
              have hg30 := hG.2.2.1.2
              have HGd := Lib.hid hG
              have HTT := Lib.hid (HY.out rfl)
              clear hG
              go_wp2_with fail
              obtain ⟨w6, hw6⟩ : ∃ w6, w6 = w5.alloc (.cells #[.int .i64 X, .int .i64 H, .slice A5 L.length c5] 43) := ⟨_, rfl⟩
              have b6 : Bx w5.heap.size w6 X H A5 L.length c5 := by rw [hw6]; exact Bx.start _ _ _ _ _ _ _
              have hb6 : Below w5.heap.size w5 w6 := by rw [hw6]; exact (Below.refl _ _).alloc (Nat.le_refl _) _
              rw [← hw6]
              have q6 := q5.next hb6
              have qf6 : ∀ o, w6.frozen? ⟨w.heap.size, o, none⟩ = false := fun o => (hb6.frozen (p := ⟨w.heap.size, o, none⟩) q5.lt).trans (qf5 o)
              have hB6 := hB5.trans (hb6.mono hB5.size)
              have hM6 := (hM5.below hb6).mono hb6.size
              have o6 := own_keep o5 hb6
              clear q5 qf5 hB5 hM5 o5 hb6 hw6
              refine (groupsOf_any A5 L.length c5 L w6 rfl hg30 (sqs_of_own o6) hfine).mono ?_
              rintro e w7 ⟨A7, c7, G, rfl, hGG, hO, hb7⟩
              have hGl : G.length ≤ 30 := by
                have e2 := congrArg List.length hGG
                have := (grps_bd L L.length).1
                rw [List.take_of_length_le (Nat.le_refl _)] at this
                simp only [asG, List.length_map] at e2
                omega
              have b7 := b6.next hb7
              have q7 := q6.next hb7
              have qf7 : ∀ o, w7.frozen? ⟨w.heap.size, o, none⟩ = false := fun o => (hb7.frozen (p := ⟨w.heap.size, o, none⟩) q6.lt).trans (qf6 o)
              have hB7 := hB6.trans (hb7.mono hB6.size)
              have hM7 := (hM6.below hb7).mono hb7.size
              have o7 := own_keep o6 hb7
              have HGG := Lib.hid hGG
              have hs67 := hb7.size
              clear q6 qf6 hB6 hM6 o6 hb7 b6 hGG hfine
              go_wp2_with fail
              refine (eachL_any A7 G.length c7 _ G w7 (by omega) hO).mono ?_
              rintro e w8 ⟨rfl, hown8, hb8⟩
              have hfin : OwnSS w8 w6.heap.size (some ⟨w7.heap.size, 0, none⟩) G.length G.length (rowsG G) :=
                ⟨by simp [rowsG], by rw [show vals (rowsG G) = G.map fun g => Value.slice g.r.A g.r.L.length g.r.c by simp [vals, rowsG, Rw.val]]; exact own_base hown8 hs67,
                  hO.inner.below hb8 (Nat.le_refl _), fun r hr k hk e => by simp [Value.ownBlock] at e; have := (hO.inner.lt hr hk).2; omega⟩
              have hrows := hfin.rows
              rw [rows_asG, HGG.out] at hrows
              have b8 := b7.next hb8
              have q8 := q7.next hb8
              have qf8 : ∀ o, w8.frozen? ⟨w.heap.size, o, none⟩ = false := fun o => (hb8.frozen (p := ⟨w.heap.size, o, none⟩) q7.lt).trans (qf7 o)
              have hB8 := hB7.trans (hb8.mono hB7.size)
              have hM8 := (hM7.below hb8).mono hb8.size
              have o8 := own_keep o7 hb8
              have hlg : (glists (grps L)).length = G.length := by rw [← HGG.out]; simp [glists, asG]
              have htl : ∀ l ∈ glists (grps L), l.length ≤ 1048576 := fun l hl => by
                have h1 := tot_mem hl
                have h2 := (grps_bd L L.length).2
                rw [List.take_of_length_le (Nat.le_refl _)] at h2
                omega
              clear q7 qf7 hB7 hM7 o7 hb8 b7 hfin hown8 hO
              go_wp2_with fail
              have heq := equalSS_any (some ⟨w7.heap.size, 0, none⟩) (some ⟨b, off, none⟩) G.length M.length G.length c (glists (grps L)) M w8 hlg rfl (by omega) hn htl (fun l hl => by have := HSH.out l hl; omega) hrows hM8.rows
              by_cases hsame : glists (grps L) = M
              · have HSA := Lib.hid hsame
                clear hsame hrows hM8 htl hlg
                refine (callB_yes heq HSA.out).mono ?_
                rintro e w9 ⟨rfl, hb9⟩
                have b9 := b8.next hb9
                have q9 := q8.next hb9
                have o9 := own_keep o8 hb9
                have t0 := (hb9.frozen (p := ⟨w.heap.size, 0, none⟩) q8.lt).trans (qf8 0)
                have t1 := (hb9.frozen (p := ⟨w.heap.size, 1, none⟩) q8.lt).trans (qf8 1)
                have t2 := (hb9.frozen (p := ⟨w.heap.size, 2, none⟩) q8.lt).trans (qf8 2)
                have hB9 := hB8.trans (hb9.mono hB8.size)
                obtain ⟨_, x0, x1, x2⟩ := id b9
                obtain ⟨_, r0, r1, r2⟩ := id q9
                clear b8 b9 q8 q9 qf8 o8 hb9 heq hB8
                go_wp2_with fail
                have hB := ((hB9.setCell (p := ⟨w.heap.size, 0, none⟩) (Nat.le_refl _) (.int .i64 X)).setCell (p := ⟨w.heap.size, 1, none⟩) (Nat.le_refl _) (.int .i64 H)).setCell (p := ⟨w.heap.size, 2, none⟩) (Nat.le_refl _) (.slice A5 L.length c5)
                have R := ownsRow_setCell_below (ownsRow_setCell_below (ownsRow_setCell_below o9 (a := ⟨w.heap.size, 0, none⟩) (Nat.lt_succ_self _) (.int .i64 X)) (a := ⟨w.heap.size, 1, none⟩) (Nat.lt_succ_self _) (.int .i64 H)) (a := ⟨w.heap.size, 2, none⟩) (Nat.lt_succ_self _) (.slice A5 L.length c5)
                refine bodyPost_ret (v := .tuple #[.agg #[.int .i64 X, .int .i64 H, .slice A5 L.length c5], .bool true]) (by simp [results, Tryz.results30, go_sem, r0, r1, r2]) rfl ?_
                exact RetCode.yes (HTT.out HSA.out) rfl (own_base R (Nat.le_succ _)) hB
              · have HNO := Lib.hid (HN2.out hsame)
                refine (callB_no heq hsame).mono ?_
                rintro e w9 ⟨rfl, hb9⟩
                have q9 := q8.next hb9
                have t0 := (hb9.frozen (p := ⟨w.heap.size, 0, none⟩) q8.lt).trans (qf8 0)
                have t1 := (hb9.frozen (p := ⟨w.heap.size, 1, none⟩) q8.lt).trans (qf8 1)
                have t2 := (hb9.frozen (p := ⟨w.heap.size, 2, none⟩) q8.lt).trans (qf8 2)
                have hB9 := hB8.trans (hb9.mono hB8.size)
                obtain ⟨_, r0, r1, r2⟩ := id q9
                clear b8 q8 q9 qf8 o8 hb9 heq hB8 hsame hrows hM8 htl hlg
                go_wp2_with fail
                have hB := (((hB9.setCell (p := ⟨w.heap.size, 0, none⟩) (Nat.le_refl _) (.int .i64 0)).setCell (p := ⟨w.heap.size, 1, none⟩) (Nat.le_refl _) (.int .i64 0)).setCell (p := ⟨w.heap.size, 2, none⟩) (Nat.le_refl _) (.slice none 0 0))
                refine bodyPost_ret (v := .tuple #[.agg #[.int .i64 0, .int .i64 0, .slice none 0 0], .bool false]) (by simp [results, Tryz.results30, go_sem, r0, r1, r2]) rfl ?_
                first | exact RetCode.no (HNO.out) hB | exact RetCode.no (HNO.out) hB9
    · have e3 : decide ((30 : Int) < (M.length : Int)) = true := by rw [decide_eq_true_iff]; omega
      have e4 : decide (30 < M.length) = true := by rw [decide_eq_true_iff]; omega
      have HNO := Lib.hid (codeR_bad (M := M) fun h => by omega)
      obtain ⟨_, r0, r1, r2⟩ := id q1
      have t0 := qf 0
      have t1 := qf 1
      have t2 := qf 2
      clear h0 hM hM1 hwf
      go_enter Tryz.func30, Tryz.ntmps30
      go_wp2_with fail
      try rw [← hW1]
      clear hW1
      try go_wp2_with fail
      have hB := (((hB1.setCell (p := ⟨w.heap.size, 0, none⟩) (Nat.le_refl _) (.int .i64 0)).setCell (p := ⟨w.heap.size, 1, none⟩) (Nat.le_refl _) (.int .i64 0)).setCell (p := ⟨w.heap.size, 2, none⟩) (Nat.le_refl _) (.slice none 0 0))
      refine bodyPost_ret (v := .tuple #[.agg #[.int .i64 0, .int .i64 0, .slice none 0 0], .bool false]) (by simp [results, Tryz.results30, go_sem, r0, r1, r2]) rfl ?_
      first | exact RetCode.no (HNO.out) hB | exact RetCode.no (HNO.out) hB1

end Go.Proofs.YtfkifcjjkaenhaaGreatDoor
