/- The walk of FnExactCutByLines. -/
import Derived.Test.YtlfikjjdhmaemaaCbw
set_option linter.all false
namespace Go.Proofs.Ytlfikjjdhmaemaa
open Go.RowKit

set_option maxRecDepth 100000 in
set_option maxHeartbeats 2000000 in
theorem lawCutByLines (d d' : Int) (w : World) :
    Calls Try.prog 14 #[.int .i64 d, .int .i64 d'] w fun e w' => e = .returned (.bool true) ∧ Below w.heap.size w w' := by
  have hRn : (ifGood (cblX d d') (cblY d d') (srt (cblQ d d')) (srt (cblQ d d'))).length ≤ 1048576 := by
    have := cblQ_len d d'
    unfold ifGood
    split
    · rw [srt_len]; omega
    · simp
  have hspec := fun w => specCbl_any d d' w
  have himpl := fun w => implCbl_any d d' w
  unfold RetCbl RetMake at hspec himpl
  obtain ⟨X, hX⟩ : ∃ X, cutX (cblX d d') (cblY d d') (srt (cblQ d d')) (cblX d d') = X := ⟨_, rfl⟩
  obtain ⟨Y, hY⟩ : ∃ Y, cutX (cblX d d') (cblY d d') (srt (cblQ d d')) (cblY d d') = Y := ⟨_, rfl⟩
  obtain ⟨R, hR⟩ : ∃ R, ifGood (cblX d d') (cblY d d') (srt (cblQ d d')) (srt (cblQ d d')) = R := ⟨_, rfl⟩
  obtain ⟨ok, hK⟩ : ∃ ok, dc (Good (cblX d d') (cblY d d') (srt (cblQ d d'))) = ok := ⟨_, rfl⟩
  rw [hR] at hRn
  rw [hX, hY, hR, hK] at hspec himpl
  have HS := Lib.hid hspec
  have HI := Lib.hid himpl
  clear hR hX hY hK hspec himpl
  go_enter Try.func14, Try.ntmps14
  go_wp2_with fail
  refine (HS.out _).mono ?_
  rintro e w1 ⟨A0, c0, rfl, o0, hb1⟩
  have hk0 := Lib.hid fun k (hk : (Value.slice A0 R.length c0).ownBlock = some k) => (o0.lt k hk).2
  go_wp2_with fail
  obtain ⟨w2, hw2⟩ : ∃ w2, w2 = w1.alloc (.cells #[.int .i64 X, .int .i64 Y, .slice A0 R.length c0] 29) := ⟨_, rfl⟩
  have b0 : Bx w1.heap.size w2 X Y A0 R.length c0 := by rw [hw2]; exact Bx.start _ _ _ _ _ _ _
  have hs1 := b0.lt
  have hb2 : Below w1.heap.size w1 w2 := by rw [hw2]; exact (Below.refl _ _).alloc (Nat.le_refl _) _
  have o0 := own_keep o0 hb2
  have hB := hb1.trans (hb2.mono hb1.size)
  have hs02 := hB.size
  rw [← hw2]
  clear hw2 hb1 hb2
  refine (HI.out _).mono ?_
  rintro e w3 ⟨Ag, cg, rfl, og, hb3⟩
  have hkg := Lib.hid fun k (hk : (Value.slice Ag R.length cg).ownBlock = some k) => og.lt k hk
  have o0 := own_keep o0 hb3
  have b0 := b0.next hb3
  have hs23 := hb3.size
  have hB := hB.trans (hb3.mono hB.size)
  clear hb3
  have hs12 := b0.lt
  have h1 : (ok != ok) = false := by simp
  obtain ⟨p0, p1, p2, p3⟩ := id b0
  go_wp2_with fail
  obtain ⟨w4, hw4⟩ : ∃ w4, w4 = w3.alloc (.cells #[.int .i64 X, .int .i64 Y, .slice Ag R.length cg] 29) := ⟨_, rfl⟩
  have bg : Bx w3.heap.size w4 X Y Ag R.length cg := by rw [hw4]; exact Bx.start _ _ _ _ _ _ _
  have hb4 : Below w3.heap.size w3 w4 := by rw [hw4]; exact (Below.refl _ _).alloc (Nat.le_refl _) _
  have b0 := b0.next hb4
  have o0 := own_keep o0 hb4
  have og := own_keep og hb4
  have hB := hB.trans (hb4.mono hB.size)
  rw [← hw4]
  clear hw4 hb4 p0 p1 p2 p3
  refine (eqCut_same X Y Ag A0 R.length cg c0 R _ rfl hRn (own_cap og) (own_cap o0) (sqs_of_own og) (sqs_of_own o0)).mono ?_
  rintro e w5 ⟨rfl, hb5⟩
  have b0 := b0.next hb5
  have bg := bg.next hb5
  have o0 := own_keep o0 hb5
  have og := own_keep og hb5
  have hB := hB.trans (hb5.mono hB.size)
  clear hb5
  obtain ⟨p0, p1, p2, p3⟩ := id b0
  obtain ⟨q0, q1, q2, q3⟩ := id bg
  go_wp2_with fail
  refine (markCut_any X Y Ag R.length cg _ _ 1 _ hRn (by decide) (by decide) og).mono ?_
  rintro e w6 ⟨rfl, og6, hgr⟩
  have b0 := b0.far hgr (fun he => by have := hkg.out _ he; omega)
  have bg := bg.far hgr (fun he => by have := hkg.out _ he; omega)
  have o0 := own_far o0 hgr (fun k hk he => by have := hk0.out k hk; have := hkg.out k he; omega)
  have hB := hB.grown hgr hB.size (fun k hk => by have := hkg.out k hk; have := hB.size; omega)
  clear p0 p1 p2 p3 q0 q1 q2 q3 hgr og
  obtain ⟨p0, p1, p2, p3⟩ := id b0
  obtain ⟨q0, q1, q2, q3⟩ := id bg
  have h2 : ¬ (1 : Int) + 3 * R.length < 0 := by omega
  go_wp2_with fail
  refine (heldCut_any X Y Ag R.length cg 1 _ hRn (by decide) (by decide) (sqs_of_own og6)).mono ?_
  rintro e w7 ⟨rfl, hb7⟩
  have b0 := b0.next hb7
  have bg := bg.next hb7
  have o0 := own_keep o0 hb7
  have og := own_keep og6 hb7
  have hB := hB.trans (hb7.mono hB.size)
  clear p0 p1 p2 p3 q0 q1 q2 q3 hb7 og6
  go_wp2_with fail
  refine (HI.out _).mono ?_
  rintro e w8 ⟨Ah, ch, rfl, oh, hb8⟩
  have b0 := b0.next hb8
  have bg := bg.next hb8
  have o0 := own_keep o0 hb8
  have og := own_keep og hb8
  have hB := hB.trans (hb8.mono hB.size)
  clear hb8
  obtain ⟨p0, p1, p2, p3⟩ := id b0
  go_wp2_with fail
  obtain ⟨w9, hw9⟩ : ∃ w9, w9 = w8.alloc (.cells #[.int .i64 X, .int .i64 Y, .slice Ah R.length ch] 29) := ⟨_, rfl⟩
  have bh : Bx w8.heap.size w9 X Y Ah R.length ch := by rw [hw9]; exact Bx.start _ _ _ _ _ _ _
  have hb9 : Below w8.heap.size w8 w9 := by rw [hw9]; exact (Below.refl _ _).alloc (Nat.le_refl _) _
  have b0 := b0.next hb9
  have bg := bg.next hb9
  have o0 := own_keep o0 hb9
  have og := own_keep og hb9
  have oh := own_keep oh hb9
  have hB := hB.trans (hb9.mono hB.size)
  rw [← hw9]
  clear hw9 hb9 p0 p1 p2 p3
  refine (eqCut_same X Y Ah A0 R.length ch c0 R _ rfl hRn (own_cap oh) (own_cap o0) (sqs_of_own oh) (sqs_of_own o0)).mono ?_
  rintro e w10 ⟨rfl, hb10⟩
  have bg := bg.next hb10
  have og := own_keep og hb10
  have hB := hB.trans (hb10.mono hB.size)
  clear hb10 b0 bh o0 oh
  obtain ⟨q0, q1, q2, q3⟩ := id bg
  go_wp2_with fail
  refine (heldCut_any X Y Ag R.length cg 1 _ hRn (by decide) (by decide) (sqs_of_own og)).mono ?_
  rintro e w11 ⟨rfl, hb11⟩
  go_wp2_with fail
  go_ret
  exact ⟨rfl, hB.trans (hb11.mono hB.size)⟩
end Go.Proofs.Ytlfikjjdhmaemaa
