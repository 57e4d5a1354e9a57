/- Codes compared: the program's and the model's. -/
import Derived.Test.YtmjdmedlkcmgiaaCodeT
import Derived.Test.YtmjdmedlkcmgiaaOrd
set_option linter.all false
namespace Go.Proofs.Ytmjdmedlkcmgiaa
open Go.RowKit

noncomputable def cmpV (M M' : List (List Int)) : Int := orI (cmpL M.flatten M'.flatten) (cmpI (codeR M).1 (codeR M').1)
noncomputable def cmpK (M M' : List (List Int)) : Int × Bool := if (codeR M).2.2.2 && (codeR M').2.2.2 then (cmpV M M', true) else (0, false)
theorem cmpK_yes {M M' : List (List Int)} (h : (codeR M).2.2.2 = true) (h' : (codeR M').2.2.2 = true) : cmpK M M' = (cmpV M M', true) := by unfold cmpK; rw [h, h']; rfl
theorem cmpK_no {M M' : List (List Int)} (h : ¬ ((codeR M).2.2.2 = true ∧ (codeR M').2.2.2 = true)) : cmpK M M' = (0, false) := by
  unfold cmpK
  cases h1 : (codeR M).2.2.2 <;> cases h2 : (codeR M').2.2.2 <;> simp_all
theorem codeR_flat {M : List (List Int)} (h : (codeR M).2.2.2 = true) : M.flatten.length ≤ 30 := by
  apply Classical.byContradiction
  intro hn
  rw [codeR_bad fun hh => hn hh.2.1] at h
  cases h
theorem l1Sign_any (a : Int) (w : World) : Calls Try.prog 83 #[.int .i64 a] w fun e w' => e = .returned (.int .i64 (if 0 < a then 1 else if a < 0 then -1 else 0)) ∧ w = w' := by
  by_cases h : 0 < a
  · rw [if_pos h]
    go_enter Try.func83, Try.ntmps83
    go_wp2_with fail
    go_ret
    exact ⟨rfl, rfl⟩
  · rw [if_neg h]
    by_cases h2 : a < 0
    · rw [if_pos h2]
      go_enter Try.func83, Try.ntmps83
      go_wp2_with fail
      go_ret
      exact ⟨rfl, rfl⟩
    · rw [if_neg h2]
      go_enter Try.func83, Try.ntmps83
      go_wp2_with fail
      go_ret
      exact ⟨rfl, rfl⟩

set_option maxRecDepth 100000 in
set_option maxHeartbeats 4000000 in
theorem implCmp_any (A A' : Option Addr) (n n' c c' : Nat) (M M' : List (List Int)) (w : World) (hl : M.length = n) (hl' : M'.length = n') (hn : n ≤ 1048576) (hn' : n' ≤ 1048576) (hM : RowsZ w w.heap.size A M) (hM' : RowsZ w w.heap.size A' M') (hwf : ∀ l ∈ M, ∀ s ∈ l, wfI s) (hwf' : ∀ l ∈ M', ∀ s ∈ l, wfI s) :
    Calls Try.prog 46 #[.slice A n c, .slice A' n' c'] w fun e w' => e = .returned (.tuple #[.int .i64 (cmpK M M').1, .bool (cmpK M M').2]) ∧ Below w.heap.size w w' := by
  subst hl
  subst hl'
  obtain ⟨X, hX⟩ : ∃ X, (codeR M).1 = X := ⟨_, rfl⟩
  obtain ⟨Y, hY⟩ : ∃ Y, (codeR M).2.1 = Y := ⟨_, rfl⟩
  obtain ⟨R, hR⟩ : ∃ R, (codeR M).2.2.1 = R := ⟨_, rfl⟩
  obtain ⟨ok, hK⟩ : ∃ ok, (codeR M).2.2.2 = ok := ⟨_, rfl⟩
  obtain ⟨X', hX'⟩ : ∃ X, (codeR M').1 = X := ⟨_, rfl⟩
  obtain ⟨Y', hY'⟩ : ∃ Y, (codeR M').2.1 = Y := ⟨_, rfl⟩
  obtain ⟨R', hR'⟩ : ∃ R, (codeR M').2.2.1 = R := ⟨_, rfl⟩
  obtain ⟨ok', hK'⟩ : ∃ ok, (codeR M').2.2.2 = ok := ⟨_, rfl⟩
  have h1 := implCutCode_any A _ c M w rfl hn hM hwf
  have h2 : ∀ u, Below w.heap.size w u → Calls Try.prog 27 #[.slice A' M'.length c'] u (RetCode u M') := fun u hu => implCutCode_any A' _ c' M' u rfl hn' ((hM'.below hu).mono hu.size) hwf'
  unfold RetCode at h1 h2
  rw [hX, hY, hR, hK] at h1
  rw [hX', hY', hR', hK'] at h2
  have H1 := Lib.hid h1
  have H2 := Lib.hid h2
  have HK := Lib.hid hK
  have HK' := Lib.hid hK'
  have HXX := Lib.hid (And.intro hX hX')
  have HMM := Lib.hid (And.intro hM hM')
  have HS := Lib.hid (code_split hX hY hR hK)
  have HS' := Lib.hid (code_split hX' hY' hR' hK')
  clear h1 h2 hX hY hR hK hX' hY' hR' hK' hM hM'
  by_cases hkk : ok = true ∧ ok' = true
  · obtain ⟨rfl, rfl⟩ := hkk
    rw [cmpK_yes HK.out HK'.out]
    have hXb : 1 ≤ X ∧ X ≤ 500 := by
      rcases HS.out with ⟨_, h⟩ | ⟨h, _⟩
      · exact h.1
      · cases h
    have hXb' : 1 ≤ X' ∧ X' ≤ 500 := by
      rcases HS'.out with ⟨_, h⟩ | ⟨h, _⟩
      · exact h.1
      · cases h
    have hf := codeR_flat HK.out
    have hf' := codeR_flat HK'.out
    obtain ⟨d, hd⟩ : ∃ d, M.flatten = d := ⟨_, rfl⟩
    obtain ⟨d', hd'⟩ : ∃ d, M'.flatten = d := ⟨_, rfl⟩
    have hv : cmpV M M' = orI (cmpL d d') (cmpI X X') := by unfold cmpV; rw [hd, hd', HXX.out.1, HXX.out.2]
    rw [hv]
    rw [hd] at hf
    rw [hd'] at hf'
    have HD := Lib.hid hd
    have HD' := Lib.hid hd'
    clear hd hd' hv HS HS'
    obtain ⟨p, hp⟩ : ∃ p, cmpL d d' = p := ⟨_, rfl⟩
    obtain ⟨q, hq⟩ : ∃ q, cmpI X X' = q := ⟨_, rfl⟩
    rw [hp, hq]
    have HPP := Lib.hid hp
    have HQQ := Lib.hid hq
    clear hp hq
    go_enter Try.func46, Try.ntmps46
    go_wp2_with fail
    refine H1.out.mono ?_
    rintro e w2 ⟨A2, c2, rfl, _, hb2⟩
    obtain ⟨w3, hw3⟩ : ∃ w3, w3 = w2.alloc (.cells #[.int .i64 X, .int .i64 Y, .slice A2 R.length c2] 31) := ⟨_, rfl⟩
    have x3 : Bx w2.heap.size w3 X Y A2 R.length c2 := by rw [hw3]; exact Bx.start _ _ _ _ _ _ _
    have hB3 : Below w.heap.size w w3 := by rw [hw3]; exact hb2.alloc hb2.size _
    obtain ⟨V, hV⟩ : ∃ V, w2.heap.size = V := ⟨_, rfl⟩
    rw [hV] at x3
    clear H1 hb2
    go_wp2_with fail
    rw [← hw3]
    clear hw3
    refine (H2.out w3 hB3).mono ?_
    rintro e w4 ⟨A4, c4, rfl, _, hb4⟩
    obtain ⟨w5, hw5⟩ : ∃ w5, w5 = w4.alloc (.cells #[.int .i64 X', .int .i64 Y', .slice A4 R'.length c4] 31) := ⟨_, rfl⟩
    have y5 : Bx w4.heap.size w5 X' Y' A4 R'.length c4 := by rw [hw5]; exact Bx.start _ _ _ _ _ _ _
    have hb5 : Below w4.heap.size w4 w5 := by rw [hw5]; exact (Below.refl _ _).alloc (Nat.le_refl _) _
    have x5 := (x3.next hb4).next hb5
    have hB5 := hB3.trans ((hb4.trans (hb5.mono hb4.size)).mono hB3.size)
    obtain ⟨V', hV'⟩ : ∃ V, w4.heap.size = V := ⟨_, rfl⟩
    rw [hV'] at y5
    clear H2 hb4 hb5 x3 hB3
    go_wp2_with fail
    rw [← hw5]
    clear hw5
    have k1 := concat_any A _ c M w5 rfl hn (by rw [HD.out]; omega) ((HMM.out.1.below hB5).mono hB5.size)
    rw [HD.out] at k1
    refine k1.mono ?_
    rintro e w6 ⟨A6, c6, rfl, o6, hb6⟩
    have hB6 := hB5.trans (hb6.mono hB5.size)
    have x6 := x5.next hb6
    have y6 := y5.next hb6
    clear k1 hb6 x5 y5 hB5
    go_wp2_with fail
    have k1 := concat_any A' _ c' M' w6 rfl hn' (by rw [HD'.out]; omega) ((HMM.out.2.below hB6).mono hB6.size)
    rw [HD'.out] at k1
    refine k1.mono ?_
    rintro e w7 ⟨A7, c7, rfl, o7, hb7⟩
    have hB7 := hB6.trans (hb7.mono hB6.size)
    have x7 := x6.next hb7
    have y7 := y6.next hb7
    have o6 := own_keep o6 hb7
    clear k1 hb7 x6 y6 hB6
    obtain ⟨_, r0, _, _⟩ := id x7
    obtain ⟨_, s0, _, _⟩ := id y7
    go_wp2_with fail
    have k2 := compareL_any A6 A7 d.length d'.length c6 c7 d d' w7 rfl rfl (by omega) (by omega) (ints_of_own o6) (ints_of_own o7)
    rw [HPP.out] at k2
    refine k2.mono ?_
    rintro e w8 ⟨rfl, rfl⟩
    have hcc := compare_any X X' w7
    rw [HQQ.out] at hcc
    have HCC := Lib.hid hcc
    clear k2 hcc HD HD' HMM o6 o7 HPP HQQ
    go_wp2_with fail
    refine HCC.out.mono ?_
    rintro e w8 ⟨rfl, rfl⟩
    go_wp2_with fail
    refine (or_any p q w7.heap.size _ (by simp) (by simp)).mono ?_
    rintro e w8 ⟨rfl, rfl⟩
    go_wp2_with fail
    go_ret2
    exact ⟨rfl, hB7.alloc hB7.size _⟩
  · rw [cmpK_no (by rw [HK.out, HK'.out]; exact hkk)]
    have HN := Lib.hid hkk
    clear hkk HS HS' HK HK' HXX HMM
    go_enter Try.func46, Try.ntmps46
    go_wp2_with fail
    refine H1.out.mono ?_
    rintro e w2 ⟨A2, c2, rfl, _, hb2⟩
    obtain ⟨w3, hw3⟩ : ∃ w3, w3 = w2.alloc (.cells #[.int .i64 X, .int .i64 Y, .slice A2 R.length c2] 31) := ⟨_, rfl⟩
    have hB3 : Below w.heap.size w w3 := by rw [hw3]; exact hb2.alloc hb2.size _
    clear H1 hb2
    go_wp2_with fail
    rw [← hw3]
    clear hw3
    refine (H2.out w3 hB3).mono ?_
    rintro e w4 ⟨A4, c4, rfl, _, hb4⟩
    have hB4 := hB3.trans (hb4.mono hB3.size)
    clear H2 hb4 hB3
    cases ok
    · go_wp2_with fail
      go_ret2
      exact ⟨rfl, hB4.alloc hB4.size _⟩
    · cases ok'
      · go_wp2_with fail
        go_ret2
        exact ⟨rfl, hB4.alloc hB4.size _⟩
      · exact absurd ⟨rfl, rfl⟩ HN.out

set_option maxRecDepth 100000 in
set_option maxHeartbeats 4000000 in
theorem specCmp_any (A A' : Option Addr) (n n' c c' : Nat) (M M' : List (List Int)) (w : World) (hl : M.length = n) (hl' : M'.length = n') (hn : n ≤ 1048576) (hn' : n' ≤ 1048576) (hM : RowsZ w w.heap.size A M) (hM' : RowsZ w w.heap.size A' M')  :
    Calls Try.prog 45 #[.slice A n c, .slice A' n' c'] w fun e w' => e = .returned (.tuple #[.int .i64 (cmpK M M').1, .bool (cmpK M M').2]) ∧ Below w.heap.size w w' := by
  subst hl
  subst hl'
  obtain ⟨X, hX⟩ : ∃ X, (codeR M).1 = X := ⟨_, rfl⟩
  obtain ⟨Y, hY⟩ : ∃ Y, (codeR M).2.1 = Y := ⟨_, rfl⟩
  obtain ⟨R, hR⟩ : ∃ R, (codeR M).2.2.1 = R := ⟨_, rfl⟩
  obtain ⟨ok, hK⟩ : ∃ ok, (codeR M).2.2.2 = ok := ⟨_, rfl⟩
  obtain ⟨X', hX'⟩ : ∃ X, (codeR M').1 = X := ⟨_, rfl⟩
  obtain ⟨Y', hY'⟩ : ∃ Y, (codeR M').2.1 = Y := ⟨_, rfl⟩
  obtain ⟨R', hR'⟩ : ∃ R, (codeR M').2.2.1 = R := ⟨_, rfl⟩
  obtain ⟨ok', hK'⟩ : ∃ ok, (codeR M').2.2.2 = ok := ⟨_, rfl⟩
  have h1 := bkCut_any A _ c M w rfl hn hM
  have h2 : ∀ u, Below w.heap.size w u → Calls Try.prog 64 #[.slice A' M'.length c'] u (RetCode u M') := fun u hu => bkCut_any A' _ c' M' u rfl hn' ((hM'.below hu).mono hu.size)
  unfold RetCode at h1 h2
  rw [hX, hY, hR, hK] at h1
  rw [hX', hY', hR', hK'] at h2
  have H1 := Lib.hid h1
  have H2 := Lib.hid h2
  have HK := Lib.hid hK
  have HK' := Lib.hid hK'
  have HXX := Lib.hid (And.intro hX hX')
  have HMM := Lib.hid (And.intro hM hM')
  have HS := Lib.hid (code_split hX hY hR hK)
  have HS' := Lib.hid (code_split hX' hY' hR' hK')
  clear h1 h2 hX hY hR hK hX' hY' hR' hK' hM hM'
  by_cases hkk : ok = true ∧ ok' = true
  · obtain ⟨rfl, rfl⟩ := hkk
    rw [cmpK_yes HK.out HK'.out]
    have hXb : 1 ≤ X ∧ X ≤ 500 := by
      rcases HS.out with ⟨_, h⟩ | ⟨h, _⟩
      · exact h.1
      · cases h
    have hXb' : 1 ≤ X' ∧ X' ≤ 500 := by
      rcases HS'.out with ⟨_, h⟩ | ⟨h, _⟩
      · exact h.1
      · cases h
    have hf := codeR_flat HK.out
    have hf' := codeR_flat HK'.out
    obtain ⟨d, hd⟩ : ∃ d, M.flatten = d := ⟨_, rfl⟩
    obtain ⟨d', hd'⟩ : ∃ d, M'.flatten = d := ⟨_, rfl⟩
    have hv : cmpV M M' = orI (cmpL d d') (cmpI X X') := by unfold cmpV; rw [hd, hd', HXX.out.1, HXX.out.2]
    rw [hv]
    rw [hd] at hf
    rw [hd'] at hf'
    have HD := Lib.hid hd
    have HD' := Lib.hid hd'
    clear hd hd' hv HS HS'
    have hfin : orI (cmpL d d') (cmpI X X') = if ltL d d' then -1 else if ltL d' d then 1 else if 0 < X - X' then 1 else if X - X' < 0 then -1 else 0 := by
      unfold cmpL
      cases ltL d d' <;> cases ltL d' d <;> simp [orI, cmpI] <;> (repeat' split) <;> omega
    rw [hfin]
    obtain ⟨p, hp⟩ : ∃ p, ltL d d' = p := ⟨_, rfl⟩
    obtain ⟨q, hq⟩ : ∃ q, ltL d' d = q := ⟨_, rfl⟩
    rw [hp, hq]
    have HPP := Lib.hid hp
    have HQQ := Lib.hid hq
    clear hp hq hfin
    go_enter Try.func45, Try.ntmps45
    go_wp2_with fail
    refine H1.out.mono ?_
    rintro e w2 ⟨A2, c2, rfl, _, hb2⟩
    obtain ⟨w3, hw3⟩ : ∃ w3, w3 = w2.alloc (.cells #[.int .i64 X, .int .i64 Y, .slice A2 R.length c2] 31) := ⟨_, rfl⟩
    have x3 : Bx w2.heap.size w3 X Y A2 R.length c2 := by rw [hw3]; exact Bx.start _ _ _ _ _ _ _
    have hB3 : Below w.heap.size w w3 := by rw [hw3]; exact hb2.alloc hb2.size _
    obtain ⟨V, hV⟩ : ∃ V, w2.heap.size = V := ⟨_, rfl⟩
    rw [hV] at x3
    clear H1 hb2
    go_wp2_with fail
    rw [← hw3]
    clear hw3
    refine (H2.out w3 hB3).mono ?_
    rintro e w4 ⟨A4, c4, rfl, _, hb4⟩
    obtain ⟨w5, hw5⟩ : ∃ w5, w5 = w4.alloc (.cells #[.int .i64 X', .int .i64 Y', .slice A4 R'.length c4] 31) := ⟨_, rfl⟩
    have y5 : Bx w4.heap.size w5 X' Y' A4 R'.length c4 := by rw [hw5]; exact Bx.start _ _ _ _ _ _ _
    have hb5 : Below w4.heap.size w4 w5 := by rw [hw5]; exact (Below.refl _ _).alloc (Nat.le_refl _) _
    have x5 := (x3.next hb4).next hb5
    have hB5 := hB3.trans ((hb4.trans (hb5.mono hb4.size)).mono hB3.size)
    obtain ⟨V', hV'⟩ : ∃ V, w4.heap.size = V := ⟨_, rfl⟩
    rw [hV'] at y5
    clear H2 hb4 hb5 x3 hB3
    go_wp2_with fail
    rw [← hw5]
    clear hw5
    have k1 := bkSides_any A _ c M w5 rfl hn (by rw [HD.out]; omega) ((HMM.out.1.below hB5).mono hB5.size)
    rw [HD.out] at k1
    refine k1.mono ?_
    rintro e w6 ⟨A6, c6, rfl, o6, hb6⟩
    have hB6 := hB5.trans (hb6.mono hB5.size)
    have x6 := x5.next hb6
    have y6 := y5.next hb6
    clear k1 hb6 x5 y5 hB5
    go_wp2_with fail
    have k1 := bkSides_any A' _ c' M' w6 rfl hn' (by rw [HD'.out]; omega) ((HMM.out.2.below hB6).mono hB6.size)
    rw [HD'.out] at k1
    refine k1.mono ?_
    rintro e w7 ⟨A7, c7, rfl, o7, hb7⟩
    have hB7 := hB6.trans (hb7.mono hB6.size)
    have x7 := x6.next hb7
    have y7 := y6.next hb7
    have o6 := own_keep o6 hb7
    have HP : Hid (∀ w : World, Below w7.heap.size w7 w → Calls Try.prog 82 #[.slice A6 d.length c6, .slice A7 d'.length c7] w fun e w' => e = .returned (.bool p) ∧ Below w.heap.size w w') := Lib.hid fun w hb => by
      have := cuBefore_any A6 A7 d.length d'.length c6 c7 d d' w rfl rfl (by omega) (by omega) (ints_of_own (own_keep o6 hb)) (ints_of_own (own_keep o7 hb))
      rwa [HPP.out] at this
    have HQ : Hid (∀ w : World, Below w7.heap.size w7 w → Calls Try.prog 82 #[.slice A7 d'.length c7, .slice A6 d.length c6] w fun e w' => e = .returned (.bool q) ∧ Below w.heap.size w w') := Lib.hid fun w hb => by
      have := cuBefore_any A7 A6 d'.length d.length c7 c6 d' d w rfl rfl (by omega) (by omega) (ints_of_own (own_keep o7 hb)) (ints_of_own (own_keep o6 hb))
      rwa [HQQ.out] at this
    clear k1 hb7 x6 y6 hB6 HD HD' HMM o6 o7 HPP HQQ
    go_wp2_with fail
    refine (HP.out w7 (Below.refl _ _)).mono ?_
    rintro e w8 ⟨rfl, hb8⟩
    have hB8 := hB7.trans (hb8.mono hB7.size)
    cases p
    · have x8 := x7.next hb8
      have y8 := y7.next hb8
      go_wp2_with fail
      refine (HQ.out w8 hb8).mono ?_
      rintro e w9 ⟨rfl, hb9⟩
      have hB9 := hB8.trans (hb9.mono hB8.size)
      cases q
      · obtain ⟨_, r0, _, _⟩ := id (x8.next hb9)
        obtain ⟨_, s0, _, _⟩ := id (y8.next hb9)
        clear x7 y7 x8 y8 HP HQ hb8 hb9 hB7 hB8
        go_wp2_with fail
        refine (l1Sign_any _ _).mono ?_
        rintro e w10 ⟨rfl, rfl⟩
        go_wp2_with fail
        all_goals (go_ret2; exact ⟨rfl, hB9⟩)
      · clear x7 y7 x8 y8 HP HQ hb8 hb9 hB7 hB8
        go_wp2_with fail
        go_ret2
        exact ⟨rfl, hB9⟩
    · clear x7 y7 HP HQ hb8 hB7
      go_wp2_with fail
      go_ret2
      exact ⟨rfl, hB8⟩
  · rw [cmpK_no (by rw [HK.out, HK'.out]; exact hkk)]
    have HN := Lib.hid hkk
    clear hkk HS HS' HK HK' HXX HMM
    go_enter Try.func45, Try.ntmps45
    go_wp2_with fail
    refine H1.out.mono ?_
    rintro e w2 ⟨A2, c2, rfl, _, hb2⟩
    obtain ⟨w3, hw3⟩ : ∃ w3, w3 = w2.alloc (.cells #[.int .i64 X, .int .i64 Y, .slice A2 R.length c2] 31) := ⟨_, rfl⟩
    have hB3 : Below w.heap.size w w3 := by rw [hw3]; exact hb2.alloc hb2.size _
    clear H1 hb2
    go_wp2_with fail
    rw [← hw3]
    clear hw3
    refine (H2.out w3 hB3).mono ?_
    rintro e w4 ⟨A4, c4, rfl, _, hb4⟩
    have hB4 := hB3.trans (hb4.mono hB3.size)
    clear H2 hb4 hB3
    cases ok
    · go_wp2_with fail
      go_ret2
      exact ⟨rfl, hB4.alloc hB4.size _⟩
    · cases ok'
      · go_wp2_with fail
        go_ret2
        exact ⟨rfl, hB4.alloc hB4.size _⟩
      · exact absurd ⟨rfl, rfl⟩ HN.out
end Go.Proofs.Ytmjdmedlkcmgiaa
