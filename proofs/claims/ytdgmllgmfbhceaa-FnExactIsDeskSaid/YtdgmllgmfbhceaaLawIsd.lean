/- The walk of FnExactIsDesk. -/
import Derived.Test.YtdgmllgmfbhceaaIsd
set_option linter.all false
namespace Go.Proofs.Ytdgmllgmfbhceaa
open Go.RowKit

set_option maxRecDepth 100000 in
set_option maxHeartbeats 4000000 in
theorem lawIsDesk (X Y : Int) (A : Option Addr) (n c : Nat) (X' Y' : Int) (A' : Option Addr) (n' c' : Nat) (L M : List Sq) (w : World) (hl : L.length = n) (hc : n ≤ c) (hL : SqsAt w w.heap.size A L) (hm : M.length = n') (hc' : n' ≤ c') (hM : SqsAt w w.heap.size A' M) (hwf : ∀ s ∈ L, wfS s) (hwf' : ∀ s ∈ M, wfS s) (hn : n + n' ≤ 1048576) :
    Calls Try.prog 3 #[.agg #[.int .i64 X, .int .i64 Y, .slice A n c, .int .i64 X', .int .i64 Y', .slice A' n' c']] w fun e w' => e = .returned (.bool true) ∧ Below w.heap.size w w' := by
  subst hl
  subst hm
  have D0 := Dx.start w X Y A L.length c X' Y' A' M.length c' 26
  obtain ⟨W1, hW1⟩ : ∃ W1, W1 = w.alloc (.cells #[.int .i64 X, .int .i64 Y, .slice A L.length c, .int .i64 X', .int .i64 Y', .slice A' M.length c'] 26) := ⟨_, rfl⟩
  have hb1 : Below w.heap.size w W1 := by rw [hW1]; exact (Below.refl _ _).alloc (Nat.le_refl _) _
  rw [← hW1] at D0
  have HW1 := Lib.hid hW1
  obtain ⟨l0, a0, a1, a2, a3, a4, a5⟩ := id D0
  clear hW1
  have C1 := Lib.hid (szDesk_ok X Y A L.length c X' Y' A' M.length c' W1 hn)
  have z1 : ¬ (1048576 : Int) - (L.length : Int) - (M.length : Int) < 0 := by omega
  go_enter Try.func3, Try.ntmps3
  go_upto_region 1 with fail
  rw [← HW1.out]
  go_wp2_with fail
  (with_reducible refine C1.out.mono ?_)
  rintro e w2 ⟨rfl, hb2⟩
  have D2 := D0.next hb2
  have B2 := hb1.trans (hb2.mono hb1.size)
  clear l0 a0 a1 a2 a3 a4 a5 C1 hb2
  obtain ⟨l0, a0, a1, a2, a3, a4, a5⟩ := id D2
  go_wp2_with fail
  (with_reducible refine (toDesk_any X Y A L.length c X' Y' A' M.length c' L M w2 rfl hc (by omega) ((hL.below B2).mono B2.size) rfl hc' (by omega) ((hM.below B2).mono B2.size)).mono ?_)
  rintro e w3 ⟨g3, h3, rfl, hb3, o3, p3⟩
  have D3 := D2.next hb3
  have B3 := B2.trans (hb3.mono B2.size)
  go_wp2_with fail
  (with_reducible refine (specIsd_any X Y _ L.length L.length X' Y' _ M.length M.length L M w3 rfl (Nat.le_refl _) (sqs_of_own o3) rfl (Nat.le_refl _) (sqs_of_own p3)).mono ?_)
  rintro e w4 ⟨rfl, hb4⟩
  have D4 := D3.next hb4
  have B4 := B3.trans (hb4.mono B3.size)
  obtain ⟨r, hr⟩ : ∃ r, dc (Good X Y L ∧ Good X' Y' M) = r := ⟨_, rfl⟩
  rw [hr]
  have HR := Lib.hid hr
  clear l0 a0 a1 a2 a3 a4 a5 hb3 hb4 D2 o3 p3 D3 hr
  obtain ⟨l0, a0, a1, a2, a3, a4, a5⟩ := id D4
  go_wp2_with fail
  (with_reducible refine (toDesk_any X Y A L.length c X' Y' A' M.length c' L M w4 rfl hc (by omega) ((hL.below B4).mono B4.size) rfl hc' (by omega) ((hM.below B4).mono B4.size)).mono ?_)
  rintro e w5 ⟨g5, h5, rfl, hb5, o5, p5⟩
  have D5 := D4.next hb5
  have B5 := B4.trans (hb5.mono B4.size)
  obtain ⟨w6, hw6⟩ : ∃ w6, w6 = w5.alloc (.cells #[.int .i64 X, .int .i64 Y, .slice (some ⟨g5, 0, none⟩) L.length L.length, .int .i64 X', .int .i64 Y', .slice (some ⟨h5, 0, none⟩) M.length M.length] 33) := ⟨_, rfl⟩
  have hb6 : Below w5.heap.size w5 w6 := by rw [hw6]; exact (Below.refl _ _).alloc (Nat.le_refl _) _
  have E6 : Dx w5.heap.size w6 X Y (some ⟨g5, 0, none⟩) L.length L.length X' Y' (some ⟨h5, 0, none⟩) M.length M.length := by rw [hw6]; exact Dx.start _ _ _ _ _ _ _ _ _ _ _ _
  have D6 := D5.next hb6
  have o6 := own_keep o5 hb6
  have p6 := own_keep p5 hb6
  have B6 := B5.trans (hb6.mono B5.size)
  clear l0 a0 a1 a2 a3 a4 a5 hb5 D4 o5 p5 D5
  go_upto_region 7 with fail
  rw [← hw6]
  clear hw6
  obtain ⟨_, b0, b1, b2, b3, b4, b5⟩ := id E6
  go_wp2_with fail
  (with_reducible refine (implIsd_any X Y _ L.length L.length X' Y' _ M.length M.length L M w6 rfl (Nat.le_refl _) (sqs_of_own o6) rfl (Nat.le_refl _) (sqs_of_own p6) hwf hwf').mono ?_)
  rintro e w7 ⟨rfl, hb7⟩
  rw [HR.out]
  have k2 : (r != r) = false := by simp
  have D7 := D6.next hb7
  have E7 := E6.next hb7
  have o7 := own_keep o6 hb7
  have p7 := own_keep p6 hb7
  have B7 := B6.trans (hb7.mono B6.size)
  have hX7 := sqs_of_own o7
  have hY7 := sqs_of_own p7
  have hL7 := ((hL.below B7).mono B7.size)
  have hM7 := ((hM.below B7).mono B7.size)
  clear b0 b1 b2 b3 b4 b5 hb7 o6 p6 D6 E6 o7 p7
  obtain ⟨l0, a0, a1, a2, a3, a4, a5⟩ := id D7
  obtain ⟨_, b0, b1, b2, b3, b4, b5⟩ := id E7
  go_wp2_with fail
  go_region_held3 (fun w' => Below w7.heap.size w7 w' ∧ w7.heap.size ≤ w'.heap.size ∧ ∀ b o, b < w7.heap.size → w'.cell? ⟨b, o, none⟩ = w7.cell? ⟨b, o, none⟩)
    (first | exact keepS (by assumption) (by assumption) | exact ⟨(Below.refl _ _).drew, Nat.le_refl _, fun _ _ _ => rfl⟩)
    (first
      | (go_at_call 8; refine (toDesk_any X Y A L.length c X' Y' A' M.length c' L M _ rfl hc (by omega) (sqsS hL7 (by assumption)) rfl hc' (by omega) (sqsS hM7 (by assumption))).mono ?_; rintro e w8 ⟨g8, h8, rfl, hb8, ho8, hp8⟩)
      | (go_at_call 10; refine (eqDesk_same X Y _ _ L.length L.length L.length L X' Y' _ _ M.length M.length M.length M _ rfl (by omega) (Nat.le_refl _) (Nat.le_refl _) (sqsS hX7 (by assumption)) (sqs_of_own (by assumption)) rfl (by omega) (Nat.le_refl _) (Nat.le_refl _) (sqsS hY7 (by assumption)) (sqs_of_own (by assumption))).mono ?_; rintro e w9 ⟨rfl, hb9⟩))
  go_wp2_with fail
  go_ret
  exact ⟨rfl, B7.trans ((belowS (B := w7.heap.size) (by assumption)).mono B7.size)⟩
set_option maxRecDepth 100000 in
theorem lawIsDesk_over (X Y : Int) (A : Option Addr) (n c : Nat) (X' Y' : Int) (A' : Option Addr) (n' c' : Nat) (w : World) (h : 1048576 < n + n') (hn : n ≤ 9223372036854775807) (hn' : n' ≤ 9223372036854775807) :
    Calls Try.prog 3 #[.agg #[.int .i64 X, .int .i64 Y, .slice A n c, .int .i64 X', .int .i64 Y', .slice A' n' c']] w fun e w' => e = .returned (.bool true) ∧ Below w.heap.size w w' := by
  have D0 := Dx.start w X Y A n c X' Y' A' n' c' 26
  obtain ⟨W1, hW1⟩ : ∃ W1, W1 = w.alloc (.cells #[.int .i64 X, .int .i64 Y, .slice A n c, .int .i64 X', .int .i64 Y', .slice A' n' c'] 26) := ⟨_, rfl⟩
  have hb1 : Below w.heap.size w W1 := by rw [hW1]; exact (Below.refl _ _).alloc (Nat.le_refl _) _
  rw [← hW1] at D0
  have HW1 := Lib.hid hW1
  obtain ⟨l0, a0, a1, a2, a3, a4, a5⟩ := id D0
  clear hW1
  have C1 := Lib.hid (szDesk_over X Y A n c X' Y' A' n' c' W1 h hn hn')
  go_enter Try.func3, Try.ntmps3
  go_upto_region 1 with fail
  rw [← HW1.out]
  go_wp2_with fail
  (with_reducible refine C1.out.mono ?_)
  rintro e w2 ⟨rfl, hb2⟩
  go_wp2_with fail
  go_ret
  exact ⟨rfl, hb1.trans (hb2.mono hb1.size)⟩
end Go.Proofs.Ytdgmllgmfbhceaa
