/- Codes of turned, mirrored and grown cuts of codes; the width and the height of a code's cut. -/
import Derived.Test.YtnnhgblgbbfmpaaSSArg
import Derived.Test.YtnnhgblgbbfmpaaTurnJ
import Derived.Test.YtnnhgblgbbfmpaaGrowJ
set_option linter.all false
namespace Go.Proofs.Ytnnhgblgbbfmpaa
open Go.RowKit

theorem codeR_zero {M : List (List Int)} (h : (codeR M).2.2.2 = false) : codeR M = (0, 0, [], false) := by
  unfold codeR at h ⊢
  split at h
  · cases h
  · next h2 => rw [if_neg h2]
theorem codeR_good {M : List (List Int)} (h : (codeR M).2.2.2 = true) : Good (codeR M).1 (codeR M).2.1 (codeR M).2.2.1 := by
  unfold codeR at h ⊢
  split at h
  · next h2 =>
    rw [if_pos h2]
    simp only [Bool.and_eq_true] at h2
    exact fillR_good h2.1
  · cases h
theorem not_good0 : ¬ Good 0 0 [] := fun h => by have := h.1; omega
theorem good_wfS {W H : Int} {L : List Sq} (h : Good W H L) : ∀ s ∈ L, wfS s := fun s hs => by
  have := good_fine h s hs
  unfold Fine at this
  unfold wfS wfI
  omega
/-- What is told of the cut of a code. -/
theorem code_split {M : List (List Int)} {X Y : Int} {R : List Sq} {ok : Bool} (hX : (codeR M).1 = X) (hY : (codeR M).2.1 = Y) (hR : (codeR M).2.2.1 = R) (hK : (codeR M).2.2.2 = ok) :
    (ok = true ∧ Good X Y R) ∨ (ok = false ∧ X = 0 ∧ Y = 0 ∧ R = []) := by
  cases ok with
  | true =>
    have := codeR_good hK
    rw [hX, hY, hR] at this
    exact .inl ⟨rfl, this⟩
  | false =>
    have := codeR_zero hK
    exact .inr ⟨rfl, by rw [← hX, this], by rw [← hY, this], by rw [← hR, this]⟩
theorem own_box {w : World} {B base : Nat} {e : TypeId} {size n : Nat} {v x y z : Value} {xs : List Value} (h : w.ownsRow base e size v n xs) (hB : B < base) : (((w.setCell ⟨B, 0, none⟩ x).setCell ⟨B, 1, none⟩ y).setCell ⟨B, 2, none⟩ z).ownsRow base e size v n xs :=
  ownsRow_setCell_below (ownsRow_setCell_below (ownsRow_setCell_below h (a := ⟨B, 0, none⟩) hB x) (a := ⟨B, 1, none⟩) hB y) (a := ⟨B, 2, none⟩) hB z
theorem below_box {w w' : World} {B base : Nat} {x y z : Value} (h : Below base w w') (hB : base ≤ B) : Below base w (((w'.setCell ⟨B, 0, none⟩ x).setCell ⟨B, 1, none⟩ y).setCell ⟨B, 2, none⟩ z) :=
  ((h.setCell (p := ⟨B, 0, none⟩) hB x).setCell (p := ⟨B, 1, none⟩) hB y).setCell (p := ⟨B, 2, none⟩) hB z

set_option maxRecDepth 100000 in
set_option maxHeartbeats 4000000 in
theorem implTurnCode_any (A : Option Addr) (n c : Nat) (M : List (List Int)) (X Y : Int) (R : List Sq) (ok : Bool) (w : World) (hl : M.length = n) (hn : n ≤ 1048576) (hM : RowsZ w w.heap.size A M) (hwf : ∀ l ∈ M, ∀ s ∈ l, wfI s) (hX : (codeR M).1 = X) (hY : (codeR M).2.1 = Y) (hR : (codeR M).2.2.1 = R) (hK : (codeR M).2.2.2 = ok) {P Q : Int} {T : List Sq} (hP : cutX X Y R Y = P) (hQ : cutX X Y R X = Q) (hT : ifGood X Y R (srt (turnL Y R)) = T) :
    Calls Try.prog 27 #[.slice A n c] w (RetSS w (ifGood P Q T (glists (grps T))) (dc (Good P Q T))) := by
  subst hl
  have hc := (implCutCode_any A _ c M w rfl hn hM hwf)
  unfold RetCode at hc
  rw [hX, hY, hR, hK] at hc
  have HC := Lib.hid hc
  have HWF : Hid (∀ s ∈ R, wfS s) := Lib.hid (by
    rcases code_split hX hY hR hK with ⟨_, hG⟩ | ⟨_, _, _, rfl⟩
    · exact good_wfS hG
    · intro s hs; cases hs)
  have HWT : Hid (∀ s ∈ T, wfS s) := Lib.hid (by
    rcases code_split hX hY hR hK with ⟨_, hG⟩ | ⟨_, rfl, rfl, rfl⟩
    · rw [ifGood_yes hG] at hT
      subst hT
      exact good_wfS (good_turn hG)
    · rw [ifGood_no not_good0] at hT
      subst hT
      intro s hs; cases hs)
  have HP := Lib.hid hP
  have HQ := Lib.hid hQ
  have HT := Lib.hid hT
  clear hc hX hY hR hK hM hwf hP hQ hT
  go_enter Try.func27, Try.ntmps27
  go_wp2_with fail
  refine HC.out.mono ?_
  rintro e w2 ⟨A2, c2, rfl, o2, hb2⟩
  clear HC
  obtain ⟨w3, hw3⟩ : ∃ w3, w3 = w2.alloc (.cells #[.int .i64 X, .int .i64 Y, .slice A2 R.length c2] 28) := ⟨_, rfl⟩
  have x3 : Bx w2.heap.size w3 X Y A2 R.length c2 := by rw [hw3]; exact Bx.start _ _ _ _ _ _ _
  have f3 : ∀ o, w3.frozen? ⟨w2.heap.size, o, none⟩ = false := by intro o; rw [hw3]; exact World.frozen?_alloc_at _ _ _ _ rfl
  have hb3 : Below w2.heap.size w2 w3 := by rw [hw3]; exact (Below.refl _ _).alloc (Nat.le_refl _) _
  have o3 := own_keep o2 hb3
  have hB3 := hb2.trans (hb3.mono hb2.size)
  have hs3 := hb2.size
  clear o2 hb3 hb2
  obtain ⟨V, hV⟩ : ∃ V, w2.heap.size = V := ⟨_, rfl⟩
  rw [hV] at x3 f3 hs3
  obtain ⟨hz3, y0, y1, y2⟩ := id x3
  go_wp2_with fail
  rw [← hw3]
  clear hw3
  refine (implTurn_any X Y _ _ _ R _ rfl (own_cap o3) (sqs_of_own o3) HWF.out).mono ?_
  rintro e w4 hret
  rw [HP.out, HQ.out, HT.out] at hret
  obtain ⟨A4, c4, rfl, o4, hb4⟩ := hret
  have x4 := x3.next hb4
  have f4 : ∀ o, w4.frozen? ⟨V, o, none⟩ = false := fun o => (hb4.frozen (p := ⟨V, o, none⟩) hz3).trans (f3 o)
  have hB4 := hB3.trans (hb4.mono hB3.size)
  have hs34 := hb4.size
  clear x3 f3 hb4 hB3 o3 y0 y1 y2
  obtain ⟨hz4, y0, y1, y2⟩ := id x4
  have g0 := f4 0
  have g1 := f4 1
  have g2 := f4 2
  obtain ⟨W5, hW5⟩ : ∃ W5, W5 = (((w4.setCell ⟨V, 0, none⟩ (.int .i64 P)).setCell ⟨V, 1, none⟩ (.int .i64 Q)).setCell ⟨V, 2, none⟩ (.slice A4 T.length c4)) := ⟨_, rfl⟩
  have o5 : W5.ownsRow w3.heap.size 71 3 (.slice A4 T.length c4) T.length (flat T) := by rw [hW5]; exact own_box o4 hz3
  have hB5 : Below w.heap.size w W5 := by rw [hW5]; exact below_box hB4 hs3
  go_wp2_with fail
  rw [← hW5]
  refine (implCode_any P Q A4 T.length c4 T W5 rfl (own_cap o5) (sqs_of_own o5) HWT.out).mono ?_
  rintro e w6 ⟨A6, c6, R6, rfl, hR6, ho6, hb6⟩
  clear HP HQ HT HWF HWT
  go_wp2_with fail
  go_ret2
  exact ⟨A6, c6, R6, rfl, hR6, ho6.based hB5.size, hB5.trans (hb6.mono hB5.size)⟩

set_option maxRecDepth 100000 in
set_option maxHeartbeats 4000000 in
theorem specTurnCode_any (A : Option Addr) (n c : Nat) (M : List (List Int)) (X Y : Int) (R : List Sq) (ok : Bool) (w : World) (hl : M.length = n) (hn : n ≤ 1048576) (hM : RowsZ w w.heap.size A M) (hX : (codeR M).1 = X) (hY : (codeR M).2.1 = Y) (hR : (codeR M).2.2.1 = R) (hK : (codeR M).2.2.2 = ok) {P Q : Int} {T : List Sq} (hP : cutX X Y R Y = P) (hQ : cutX X Y R X = Q) (hT : ifGood X Y R (srt (turnL Y R)) = T) :
    Calls Try.prog 25 #[.slice A n c] w (RetSS w (ifGood P Q T (glists (grps T))) (dc (Good P Q T))) := by
  subst hl
  have hc := (bkCut_any A _ c M w rfl hn hM)
  unfold RetCode at hc
  rw [hX, hY, hR, hK] at hc
  have HC := Lib.hid hc
  have HS := Lib.hid (code_split hX hY hR hK)
  clear hc hX hY hR hK hM
  go_enter Try.func25, Try.ntmps25
  go_wp2_with fail
  refine HC.out.mono ?_
  rintro e w2 ⟨A2, c2, rfl, o2, hb2⟩
  clear HC
  obtain ⟨w3, hw3⟩ : ∃ w3, w3 = w2.alloc (.cells #[.int .i64 X, .int .i64 Y, .slice A2 R.length c2] 28) := ⟨_, rfl⟩
  have x3 : Bx w2.heap.size w3 X Y A2 R.length c2 := by rw [hw3]; exact Bx.start _ _ _ _ _ _ _
  have hb3 : Below w2.heap.size w2 w3 := by rw [hw3]; exact (Below.refl _ _).alloc (Nat.le_refl _) _
  have o3 := own_keep o2 hb3
  have hB3 := hb2.trans (hb3.mono hb2.size)
  clear o2 hb3 hb2
  rcases HS.out with ⟨rfl, hG⟩ | ⟨rfl, rfl, rfl, rfl⟩
  · rw [cutX_yes hG] at hP
    rw [cutX_yes hG] at hQ
    rw [ifGood_yes hG] at hT
    subst hP hQ hT
    have hG2 := good_turn hG
    have h30 := hG2.2.2.1.2
    have hfine := good_fine hG2
    have hlen : (turnL Y R).length = R.length := by simp [turnL, mirL]
    have HG := Lib.hid hG
    have HG2 := Lib.hid hG2
    have HL := Lib.hid hlen
    have HF := Lib.hid hfine
    have H30 := Lib.hid h30
    clear hG hG2 hlen hfine h30 HS
    obtain ⟨V, hV⟩ : ∃ V, w2.heap.size = V := ⟨_, rfl⟩
    rw [hV] at x3
    obtain ⟨hz3, y0, y1, y2⟩ := id x3
    go_wp2_with fail
    rw [← hw3]
    clear hw3
    have hG := HG.out
    refine (cuTurn_any X Y _ _ _ R _ rfl (own_cap o3) (sqs_of_own o3) hG).mono ?_
    rintro e w4 ⟨A4, c4, T4, rfl, hp, hs, o4, hb4⟩
    have hT4 := srt_uniq hp hs ((fill_turn (good_fill hG)).dist)
    have hB4 := hB3.trans (hb4.mono hB3.size)
    rw [HL.out] at o4
    have HT4 := Lib.hid hT4
    have hl4 : T4.length = R.length := hp.length_eq.trans HL.out
    have HL4 := Lib.hid hl4
    rw [HL.out]
    clear hG hp hs hT4 hl4 y0 y1 y2
    go_wp2_with fail
    refine (bkCode_any _ _ A4 R.length c4 T4 w4 HL4.out (by have := H30.out; rw [← HT4.out, HL4.out] at this; exact this) (sqs_of_own o4) (by rw [HT4.out]; exact HF.out)).mono ?_
    rw [HT4.out]
    rintro e w6 ⟨A6, c6, R6, rfl, hR6, ho6, hb6⟩
    go_wp2_with fail
    go_ret2
    rw [ifGood_yes HG2.out, dc_true HG2.out]
    exact ⟨A6, c6, R6, rfl, hR6, ho6.based hB4.size, hB4.trans (hb6.mono hB4.size)⟩
  · rw [cutX_no not_good0] at hP
    rw [cutX_no not_good0] at hQ
    rw [ifGood_no not_good0] at hT
    subst hP hQ hT
    go_wp2_with fail
    go_ret2
    rw [ifGood_no not_good0, dc_false not_good0]
    rw [hw3] at hB3
    exact RetSS.none_ hB3

set_option maxRecDepth 100000 in
set_option maxHeartbeats 4000000 in
theorem implMirrorCode_any (A : Option Addr) (n c : Nat) (M : List (List Int)) (X Y : Int) (R : List Sq) (ok : Bool) (w : World) (hl : M.length = n) (hn : n ≤ 1048576) (hM : RowsZ w w.heap.size A M) (hwf : ∀ l ∈ M, ∀ s ∈ l, wfI s) (hX : (codeR M).1 = X) (hY : (codeR M).2.1 = Y) (hR : (codeR M).2.2.1 = R) (hK : (codeR M).2.2.2 = ok) {P Q : Int} {T : List Sq} (hP : cutX X Y R X = P) (hQ : cutX X Y R Y = Q) (hT : ifGood X Y R (srt (mirL X R)) = T) :
    Calls Try.prog 32 #[.slice A n c] w (RetSS w (ifGood P Q T (glists (grps T))) (dc (Good P Q T))) := by
  subst hl
  have hc := (implCutCode_any A _ c M w rfl hn hM hwf)
  unfold RetCode at hc
  rw [hX, hY, hR, hK] at hc
  have HC := Lib.hid hc
  have HWF : Hid (∀ s ∈ R, wfS s) := Lib.hid (by
    rcases code_split hX hY hR hK with ⟨_, hG⟩ | ⟨_, _, _, rfl⟩
    · exact good_wfS hG
    · intro s hs; cases hs)
  have HWT : Hid (∀ s ∈ T, wfS s) := Lib.hid (by
    rcases code_split hX hY hR hK with ⟨_, hG⟩ | ⟨_, rfl, rfl, rfl⟩
    · rw [ifGood_yes hG] at hT
      subst hT
      exact good_wfS (good_mir hG)
    · rw [ifGood_no not_good0] at hT
      subst hT
      intro s hs; cases hs)
  have HP := Lib.hid hP
  have HQ := Lib.hid hQ
  have HT := Lib.hid hT
  clear hc hX hY hR hK hM hwf hP hQ hT
  go_enter Try.func32, Try.ntmps32
  go_wp2_with fail
  refine HC.out.mono ?_
  rintro e w2 ⟨A2, c2, rfl, o2, hb2⟩
  clear HC
  obtain ⟨w3, hw3⟩ : ∃ w3, w3 = w2.alloc (.cells #[.int .i64 X, .int .i64 Y, .slice A2 R.length c2] 28) := ⟨_, rfl⟩
  have x3 : Bx w2.heap.size w3 X Y A2 R.length c2 := by rw [hw3]; exact Bx.start _ _ _ _ _ _ _
  have f3 : ∀ o, w3.frozen? ⟨w2.heap.size, o, none⟩ = false := by intro o; rw [hw3]; exact World.frozen?_alloc_at _ _ _ _ rfl
  have hb3 : Below w2.heap.size w2 w3 := by rw [hw3]; exact (Below.refl _ _).alloc (Nat.le_refl _) _
  have o3 := own_keep o2 hb3
  have hB3 := hb2.trans (hb3.mono hb2.size)
  have hs3 := hb2.size
  clear o2 hb3 hb2
  obtain ⟨V, hV⟩ : ∃ V, w2.heap.size = V := ⟨_, rfl⟩
  rw [hV] at x3 f3 hs3
  obtain ⟨hz3, y0, y1, y2⟩ := id x3
  go_wp2_with fail
  rw [← hw3]
  clear hw3
  refine (implMirror_any X Y _ _ _ R _ rfl (own_cap o3) (sqs_of_own o3) HWF.out).mono ?_
  rintro e w4 hret
  rw [HP.out, HQ.out, HT.out] at hret
  obtain ⟨A4, c4, rfl, o4, hb4⟩ := hret
  have x4 := x3.next hb4
  have f4 : ∀ o, w4.frozen? ⟨V, o, none⟩ = false := fun o => (hb4.frozen (p := ⟨V, o, none⟩) hz3).trans (f3 o)
  have hB4 := hB3.trans (hb4.mono hB3.size)
  have hs34 := hb4.size
  clear x3 f3 hb4 hB3 o3 y0 y1 y2
  obtain ⟨hz4, y0, y1, y2⟩ := id x4
  have g0 := f4 0
  have g1 := f4 1
  have g2 := f4 2
  obtain ⟨W5, hW5⟩ : ∃ W5, W5 = (((w4.setCell ⟨V, 0, none⟩ (.int .i64 P)).setCell ⟨V, 1, none⟩ (.int .i64 Q)).setCell ⟨V, 2, none⟩ (.slice A4 T.length c4)) := ⟨_, rfl⟩
  have o5 : W5.ownsRow w3.heap.size 71 3 (.slice A4 T.length c4) T.length (flat T) := by rw [hW5]; exact own_box o4 hz3
  have hB5 : Below w.heap.size w W5 := by rw [hW5]; exact below_box hB4 hs3
  go_wp2_with fail
  rw [← hW5]
  refine (implCode_any P Q A4 T.length c4 T W5 rfl (own_cap o5) (sqs_of_own o5) HWT.out).mono ?_
  rintro e w6 ⟨A6, c6, R6, rfl, hR6, ho6, hb6⟩
  clear HP HQ HT HWF HWT
  go_wp2_with fail
  go_ret2
  exact ⟨A6, c6, R6, rfl, hR6, ho6.based hB5.size, hB5.trans (hb6.mono hB5.size)⟩

set_option maxRecDepth 100000 in
set_option maxHeartbeats 4000000 in
theorem specMirrorCode_any (A : Option Addr) (n c : Nat) (M : List (List Int)) (X Y : Int) (R : List Sq) (ok : Bool) (w : World) (hl : M.length = n) (hn : n ≤ 1048576) (hM : RowsZ w w.heap.size A M) (hX : (codeR M).1 = X) (hY : (codeR M).2.1 = Y) (hR : (codeR M).2.2.1 = R) (hK : (codeR M).2.2.2 = ok) {P Q : Int} {T : List Sq} (hP : cutX X Y R X = P) (hQ : cutX X Y R Y = Q) (hT : ifGood X Y R (srt (mirL X R)) = T) :
    Calls Try.prog 31 #[.slice A n c] w (RetSS w (ifGood P Q T (glists (grps T))) (dc (Good P Q T))) := by
  subst hl
  have hc := (bkCut_any A _ c M w rfl hn hM)
  unfold RetCode at hc
  rw [hX, hY, hR, hK] at hc
  have HC := Lib.hid hc
  have HS := Lib.hid (code_split hX hY hR hK)
  clear hc hX hY hR hK hM
  go_enter Try.func31, Try.ntmps31
  go_wp2_with fail
  refine HC.out.mono ?_
  rintro e w2 ⟨A2, c2, rfl, o2, hb2⟩
  clear HC
  obtain ⟨w3, hw3⟩ : ∃ w3, w3 = w2.alloc (.cells #[.int .i64 X, .int .i64 Y, .slice A2 R.length c2] 28) := ⟨_, rfl⟩
  have x3 : Bx w2.heap.size w3 X Y A2 R.length c2 := by rw [hw3]; exact Bx.start _ _ _ _ _ _ _
  have hb3 : Below w2.heap.size w2 w3 := by rw [hw3]; exact (Below.refl _ _).alloc (Nat.le_refl _) _
  have o3 := own_keep o2 hb3
  have hB3 := hb2.trans (hb3.mono hb2.size)
  clear o2 hb3 hb2
  rcases HS.out with ⟨rfl, hG⟩ | ⟨rfl, rfl, rfl, rfl⟩
  · rw [cutX_yes hG] at hP
    rw [cutX_yes hG] at hQ
    rw [ifGood_yes hG] at hT
    subst hP hQ hT
    have hG2 := good_mir hG
    have h30 := hG2.2.2.1.2
    have hfine := good_fine hG2
    have hlen : (mirL X R).length = R.length := by simp [turnL, mirL]
    have HG := Lib.hid hG
    have HG2 := Lib.hid hG2
    have HL := Lib.hid hlen
    have HF := Lib.hid hfine
    have H30 := Lib.hid h30
    clear hG hG2 hlen hfine h30 HS
    obtain ⟨V, hV⟩ : ∃ V, w2.heap.size = V := ⟨_, rfl⟩
    rw [hV] at x3
    obtain ⟨hz3, y0, y1, y2⟩ := id x3
    go_wp2_with fail
    rw [← hw3]
    clear hw3
    have hG := HG.out
    refine (cuMirror_any X Y _ _ _ R _ rfl (own_cap o3) (sqs_of_own o3) hG).mono ?_
    rintro e w4 ⟨A4, c4, T4, rfl, hp, hs, o4, hb4⟩
    have hT4 := srt_uniq hp hs ((fill_mir (good_fill hG)).dist)
    have hB4 := hB3.trans (hb4.mono hB3.size)
    rw [HL.out] at o4
    have HT4 := Lib.hid hT4
    have hl4 : T4.length = R.length := hp.length_eq.trans HL.out
    have HL4 := Lib.hid hl4
    rw [HL.out]
    clear hG hp hs hT4 hl4 y0 y1 y2
    go_wp2_with fail
    refine (bkCode_any _ _ A4 R.length c4 T4 w4 HL4.out (by have := H30.out; rw [← HT4.out, HL4.out] at this; exact this) (sqs_of_own o4) (by rw [HT4.out]; exact HF.out)).mono ?_
    rw [HT4.out]
    rintro e w6 ⟨A6, c6, R6, rfl, hR6, ho6, hb6⟩
    go_wp2_with fail
    go_ret2
    rw [ifGood_yes HG2.out, dc_true HG2.out]
    exact ⟨A6, c6, R6, rfl, hR6, ho6.based hB4.size, hB4.trans (hb6.mono hB4.size)⟩
  · rw [cutX_no not_good0] at hP
    rw [cutX_no not_good0] at hQ
    rw [ifGood_no not_good0] at hT
    subst hP hQ hT
    go_wp2_with fail
    go_ret2
    rw [ifGood_no not_good0, dc_false not_good0]
    rw [hw3] at hB3
    exact RetSS.none_ hB3
end Go.Proofs.Ytnnhgblgbbfmpaa
