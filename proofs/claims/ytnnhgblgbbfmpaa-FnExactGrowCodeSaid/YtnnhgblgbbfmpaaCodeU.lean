/- Codes of grown cuts of codes. -/
import Derived.Test.YtnnhgblgbbfmpaaCodeT
set_option linter.all false
namespace Go.Proofs.Ytnnhgblgbbfmpaa
open Go.RowKit

theorem grow_split {M : List (List Int)} {X Y : Int} {R : List Sq} {ok : Bool} {k P Q : Int} {T : List Sq} (hX : (codeR M).1 = X) (hY : (codeR M).2.1 = Y) (hR : (codeR M).2.2.1 = R) (hK : (codeR M).2.2.2 = ok)
    (hP : growX X Y R k X = P) (hQ : growX X Y R k Y = Q) (hT : growR X Y R k = T) :
    (ok = true ∧ GrowOk X Y R k ∧ Good P Q T ∧ Good X Y R) ∨ (ok = true ∧ ¬ GrowOk X Y R k ∧ P = 0 ∧ Q = 0 ∧ T = [] ∧ Good X Y R) ∨ (ok = false ∧ ¬ GrowOk X Y R k ∧ P = 0 ∧ Q = 0 ∧ T = [] ∧ R = []) := by
  by_cases hg : GrowOk X Y R k
  · have hG : Good X Y R := hg.1
    rcases code_split hX hY hR hK with ⟨h, _⟩ | ⟨_, rfl, rfl, rfl⟩
    · refine .inl ⟨h, hg, ?_, hG⟩
      rw [← hP, ← hQ, ← hT, growX_yes hg, growX_yes hg, growR_yes hg]
      exact good_grow hG hg.2.1 hg.2.2.1 hg.2.2.2
    · exact absurd hG not_good0
  · rw [growX_no hg] at hP
    rw [growX_no hg] at hQ
    rw [growR_no hg] at hT
    rcases code_split hX hY hR hK with ⟨h, hG⟩ | ⟨h, _, _, hR0⟩
    · exact .inr (.inl ⟨h, hg, hP.symm, hQ.symm, hT.symm, hG⟩)
    · exact .inr (.inr ⟨h, hg, hP.symm, hQ.symm, hT.symm, hR0⟩)

set_option maxRecDepth 100000 in
set_option maxHeartbeats 4000000 in
theorem implGrowCode_any (A : Option Addr) (n c : Nat) (M : List (List Int)) (X Y : Int) (R : List Sq) (ok : Bool) (k : Int) (w : World) (hl : M.length = n) (hn : n ≤ 1048576) (hM : RowsZ w w.heap.size A M) (hwf : ∀ l ∈ M, ∀ s ∈ l, wfI s) (hX : (codeR M).1 = X) (hY : (codeR M).2.1 = Y) (hR : (codeR M).2.2.1 = R) (hK : (codeR M).2.2.2 = ok) {P Q : Int} {T : List Sq} (hP : growX X Y R k X = P) (hQ : growX X Y R k Y = Q) (hT : growR X Y R k = T) :
    Calls Try.prog 34 #[.slice A n c, .int .i64 k] w (RetSS w (ifGood P Q T (glists (grps T))) (dc (Good P Q T))) := by
  subst hl
  have hc := (implCutCode_any A _ c M w rfl hn hM hwf)
  unfold RetCode at hc
  rw [hX, hY, hR, hK] at hc
  have HC := Lib.hid hc
  have hsp := grow_split hX hY hR hK hP hQ hT
  have HWF : Hid (∀ s ∈ R, wfS s) := Lib.hid (by
    rcases hsp with ⟨_, _, _, hG⟩ | ⟨_, _, _, _, _, hG⟩ | ⟨_, _, _, _, _, rfl⟩
    · exact good_wfS hG
    · exact good_wfS hG
    · intro s hs; cases hs)
  have HWT : Hid (∀ s ∈ T, wfS s) := Lib.hid (by
    rcases hsp with ⟨_, _, hG, _⟩ | ⟨_, _, _, _, rfl, _⟩ | ⟨_, _, _, _, rfl, _⟩
    · exact good_wfS hG
    · intro s hs; cases hs
    · intro s hs; cases hs)
  have HP := Lib.hid hP
  have HQ := Lib.hid hQ
  have HT := Lib.hid hT
  clear hc hX hY hR hK hM hwf hP hQ hT hsp
  go_enter Try.func34, Try.ntmps34
  go_wp2_with fail
  refine HC.out.mono ?_
  rintro e w2 ⟨A2, c2, rfl, o2, hb2⟩
  clear HC
  obtain ⟨w3, hw3⟩ : ∃ w3, w3 = w2.alloc (.cells #[.int .i64 X, .int .i64 Y, .slice A2 R.length c2] 28) := ⟨_, rfl⟩
  have x3 : Bx w2.heap.size w3 X Y A2 R.length c2 := by rw [hw3]; exact Bx.start _ _ _ _ _ _ _
  have f3 : ∀ o, w3.frozen? ⟨w2.heap.size, o, none⟩ = false := by intro o; rw [hw3]; exact World.frozen?_alloc_at _ _ _ _ rfl
  have hb3 : Below w2.heap.size w2 w3 := by rw [hw3]; exact (Below.refl _ _).alloc (Nat.le_refl _) _
  have o3 := own_keep o2 hb3
  have hB3 := hb2.trans (hb3.mono hb2.size)
  have hs3 := hb2.size
  clear o2 hb3 hb2
  obtain ⟨V, hV⟩ : ∃ V, w2.heap.size = V := ⟨_, rfl⟩
  rw [hV] at x3 f3 hs3
  obtain ⟨hz3, y0, y1, y2⟩ := id x3
  go_wp2_with fail
  rw [← hw3]
  clear hw3
  refine (implGrow_any X Y _ _ _ R k _ rfl (own_cap o3) (sqs_of_own o3) HWF.out).mono ?_
  rintro e w4 hret
  unfold RetGrow at hret
  rw [HP.out, HQ.out, HT.out] at hret
  obtain ⟨A4, c4, rfl, o4, hb4⟩ := hret
  have x4 := x3.next hb4
  have f4 : ∀ o, w4.frozen? ⟨V, o, none⟩ = false := fun o => (hb4.frozen (p := ⟨V, o, none⟩) hz3).trans (f3 o)
  have hB4 := hB3.trans (hb4.mono hB3.size)
  have hs34 := hb4.size
  clear x3 f3 hb4 hB3 o3 y0 y1 y2
  obtain ⟨hz4, y0, y1, y2⟩ := id x4
  have g0 := f4 0
  have g1 := f4 1
  have g2 := f4 2
  obtain ⟨W5, hW5⟩ : ∃ W5, W5 = (((w4.setCell ⟨V, 0, none⟩ (.int .i64 P)).setCell ⟨V, 1, none⟩ (.int .i64 Q)).setCell ⟨V, 2, none⟩ (.slice A4 T.length c4)) := ⟨_, rfl⟩
  have o5 : W5.ownsRow w3.heap.size 71 3 (.slice A4 T.length c4) T.length (flat T) := by rw [hW5]; exact own_box o4 hz3
  have hB5 : Below w.heap.size w W5 := by rw [hW5]; exact below_box hB4 hs3
  go_wp2_with fail
  rw [← hW5]
  refine (implCode_any P Q A4 T.length c4 T W5 rfl (own_cap o5) (sqs_of_own o5) HWT.out).mono ?_
  rintro e w6 ⟨A6, c6, R6, rfl, hR6, ho6, hb6⟩
  clear HP HQ HT HWF HWT
  go_wp2_with fail
  go_ret2
  exact ⟨A6, c6, R6, rfl, hR6, ho6.based hB5.size, hB5.trans (hb6.mono hB5.size)⟩

set_option maxRecDepth 100000 in
set_option maxHeartbeats 4000000 in
theorem specGrowCode_any (A : Option Addr) (n c : Nat) (M : List (List Int)) (X Y : Int) (R : List Sq) (ok : Bool) (k : Int) (w : World) (hl : M.length = n) (hn : n ≤ 1048576) (hM : RowsZ w w.heap.size A M) (hX : (codeR M).1 = X) (hY : (codeR M).2.1 = Y) (hR : (codeR M).2.2.1 = R) (hK : (codeR M).2.2.2 = ok) {P Q : Int} {T : List Sq} (hP : growX X Y R k X = P) (hQ : growX X Y R k Y = Q) (hT : growR X Y R k = T) :
    Calls Try.prog 33 #[.slice A n c, .int .i64 k] w (RetSS w (ifGood P Q T (glists (grps T))) (dc (Good P Q T))) := by
  subst hl
  have hc := (bkCut_any A _ c M w rfl hn hM)
  unfold RetCode at hc
  rw [hX, hY, hR, hK] at hc
  have HC := Lib.hid hc
  have HS := Lib.hid (grow_split hX hY hR hK hP hQ hT)
  have HP := Lib.hid hP
  have HQ := Lib.hid hQ
  have HT := Lib.hid hT
  clear hc hX hY hR hK hM hP hQ hT
  go_enter Try.func33, Try.ntmps33
  go_wp2_with fail
  refine HC.out.mono ?_
  rintro e w2 ⟨A2, c2, rfl, o2, hb2⟩
  clear HC
  obtain ⟨w3, hw3⟩ : ∃ w3, w3 = w2.alloc (.cells #[.int .i64 X, .int .i64 Y, .slice A2 R.length c2] 28) := ⟨_, rfl⟩
  have x3 : Bx w2.heap.size w3 X Y A2 R.length c2 := by rw [hw3]; exact Bx.start _ _ _ _ _ _ _
  have hb3 : Below w2.heap.size w2 w3 := by rw [hw3]; exact (Below.refl _ _).alloc (Nat.le_refl _) _
  have o3 := own_keep o2 hb3
  have hB3 := hb2.trans (hb3.mono hb2.size)
  clear o2 hb3 hb2
  obtain ⟨V, hV⟩ : ∃ V, w2.heap.size = V := ⟨_, rfl⟩
  rw [hV] at x3
  obtain ⟨hz3, y0, y1, y2⟩ := id x3
  cases ok with
  | true =>
    obtain ⟨okk, hokk⟩ : ∃ okk, dc (GrowOk X Y R k) = okk := ⟨_, rfl⟩
    have HO := Lib.hid hokk
    clear hokk
    go_wp2_with fail
    rw [← hw3]
    clear hw3
    refine (specGrow_any X Y _ _ _ R k _ rfl (own_cap o3) (sqs_of_own o3)).mono ?_
    rintro e w4 hret
    unfold RetGrow at hret
    rw [HP.out, HQ.out, HT.out, HO.out] at hret
    obtain ⟨A4, c4, rfl, o4, hb4⟩ := hret
    have hB4 := hB3.trans (hb4.mono hB3.size)
    obtain ⟨w5, hw5⟩ : ∃ w5, w5 = w4.alloc (.cells #[.int .i64 P, .int .i64 Q, .slice A4 T.length c4] 28) := ⟨_, rfl⟩
    have x5 : Bx w4.heap.size w5 P Q A4 T.length c4 := by rw [hw5]; exact Bx.start _ _ _ _ _ _ _
    have hb5 : Below w4.heap.size w4 w5 := by rw [hw5]; exact (Below.refl _ _).alloc (Nat.le_refl _) _
    have o5 := own_keep o4 hb5
    have hB5 := hB4.trans (hb5.mono hB4.size)
    obtain ⟨V5, hV5⟩ : ∃ V, w4.heap.size = V := ⟨_, rfl⟩
    rw [hV5] at x5
    clear o4 hb4 hB4 hb5 x3 y0 y1 y2
    obtain ⟨hz5, y0, y1, y2⟩ := id x5
    cases okk with
    | true =>
      have hG2 : Good P Q T := by
        rcases HS.out with ⟨_, _, h, _⟩ | ⟨_, h, _⟩ | ⟨h, _⟩
        · exact h
        · exact absurd (dc_iff.1 HO.out) h
        · cases h
      have h30 := hG2.2.2.1.2
      have HG2 := Lib.hid hG2
      have HF := Lib.hid (good_fine hG2)
      clear hG2 HS
      go_wp2_with fail
      rw [← hw5]
      refine (bkCode_any P Q A4 T.length c4 T w5 rfl h30 (sqs_of_own o5) HF.out).mono ?_
      rintro e w6 ⟨A6, c6, R6, rfl, hR6, ho6, hb6⟩
      go_wp2_with fail
      go_ret2
      rw [ifGood_yes HG2.out, dc_true HG2.out]
      exact ⟨A6, c6, R6, rfl, hR6, ho6.based hB5.size, hB5.trans (hb6.mono hB5.size)⟩
    | false =>
      have hz : P = 0 ∧ Q = 0 ∧ T = [] := by
        rcases HS.out with ⟨_, h, _⟩ | ⟨_, _, h1, h2, h3, _⟩ | ⟨h, _⟩
        · have := HO.out; rw [dc_true h] at this; cases this
        · exact ⟨h1, h2, h3⟩
        · cases h
      have HZ := Lib.hid hz
      clear hz HS
      go_wp2_with fail
      go_ret2
      rw [HZ.out.1, HZ.out.2.1, HZ.out.2.2, ifGood_no not_good0, dc_false not_good0]
      rw [hw5, HZ.out.1, HZ.out.2.1, HZ.out.2.2] at hB5
      exact RetSS.none_ hB5
  | false =>
    have hz : P = 0 ∧ Q = 0 ∧ T = [] := by
      rcases HS.out with ⟨h, _⟩ | ⟨h, _⟩ | ⟨_, _, h1, h2, h3, _⟩
      · cases h
      · cases h
      · exact ⟨h1, h2, h3⟩
    have HZ := Lib.hid hz
    clear hz HS
    go_wp2_with fail
    go_ret2
    rw [HZ.out.1, HZ.out.2.1, HZ.out.2.2, ifGood_no not_good0, dc_false not_good0]
    rw [hw3] at hB3
    exact RetSS.none_ hB3
end Go.Proofs.Ytnnhgblgbbfmpaa
