/- The walk of FnExactCutOfSides. -/
import Derived.Test.YtmjdmedlkcmgiaaGen
import Derived.Test.YtmjdmedlkcmgiaaFillJ
set_option linter.all false
namespace Go.Proofs.Ytmjdmedlkcmgiaa
open Go.RowKit

set_option maxRecDepth 100000 in
set_option maxHeartbeats 4000000 in
theorem lawCutSides (P : Int) (A : Option Addr) (n c : Nat) (L : List Int) (w : World) (hl : L.length = n) (hc : n ≤ c) (hn : n ≤ 1048576) (hL : IntsAt w w.heap.size A L) (hwf : ∀ s ∈ L, wfI s) :
    Calls Try.prog 5 #[.int .i64 P, .slice A n c] w fun e w' => e = .returned (.bool true) ∧ Below w.heap.size w w' := by
  subst hl
  have hRn := fillR_len P L
  obtain ⟨X, hX⟩ : ∃ X, (if (fillR P L).2.2 then P else 0) = X := ⟨_, rfl⟩
  obtain ⟨Y, hY⟩ : ∃ Y, (fillR P L).1 = Y := ⟨_, rfl⟩
  obtain ⟨R, hR⟩ : ∃ R, (fillR P L).2.1 = R := ⟨_, rfl⟩
  obtain ⟨ok, hK⟩ : ∃ ok, (fillR P L).2.2 = ok := ⟨_, rfl⟩
  rw [hR] at hRn
  have HR := Lib.hid hR
  have HX := Lib.hid hX
  have HY := Lib.hid hY
  have HK := Lib.hid hK
  clear hR hX hY hK
  have h1 : (ok != ok) = false := by simp
  have h' : decide ((1048576 : Int) < (L.length : Int)) = false := by rw [decide_eq_false_iff_not]; omega
  have hN' : decide (1048576 < L.length) = false := by rw [decide_eq_false_iff_not]; omega
  go_enter Try.func5, Try.ntmps5
  go_wp2_with fail
  refine (toIntS_any A L.length c L w rfl hn hL).mono ?_
  rintro e w2 ⟨g2, rfl, hb2, ho2⟩
  go_wp2_with fail
  refine (specSides_any P _ _ _ L _ rfl hn (ints_of_own ho2)).mono ?_
  rintro e w3 hret
  unfold RetFill at hret
  rw [HR.out, HX.out, HY.out, HK.out] at hret
  obtain ⟨A0, c0, rfl, o0, hb3⟩ := hret
  have hk0 := Lib.hid fun k (hk : (Value.slice A0 R.length c0).ownBlock = some k) => (o0.lt k hk).2
  have hB3 := hb2.trans (hb3.mono hb2.size)
  clear hb2 hb3 ho2
  go_wp2_with fail
  obtain ⟨w3', hw3⟩ : ∃ w3', w3' = w3.alloc (.cells #[.int .i64 X, .int .i64 Y, .slice A0 R.length c0] 31) := ⟨_, rfl⟩
  have b0 : Bx w3.heap.size w3' X Y A0 R.length c0 := by rw [hw3]; exact Bx.start _ _ _ _ _ _ _
  have hs3 := b0.lt
  have hb3' : Below w3.heap.size w3 w3' := by rw [hw3]; exact (Below.refl _ _).alloc (Nat.le_refl _) _
  have o0 := own_keep o0 hb3'
  have hB3 := hB3.trans (hb3'.mono hB3.size)
  have hs03 := hB3.size
  rw [← hw3]
  clear hw3 hb3'
  refine (toIntS_any A L.length c L w3' rfl hn ((hL.below hB3).mono hB3.size)).mono ?_
  rintro e w4 ⟨g4, rfl, hb4, ho4⟩
  have hg4 := own_lt ho4
  have hs34 := hb4.size
  have o0 := own_keep o0 hb4
  have b0 := b0.next hb4
  have hB4 := hB3.trans (hb4.mono hB3.size)
  have hs04 := hB4.size
  clear hb4 hB3
  go_wp2_with fail
  refine (fillI_any P _ _ _ L _ rfl hn (ints_of_own ho4) hwf).mono ?_
  rintro e w6 hret
  unfold RetFill at hret
  rw [HR.out, HX.out, HY.out, HK.out] at hret
  obtain ⟨Ag, cg, rfl, og, hb6⟩ := hret
  have hkg := Lib.hid fun k (hk : (Value.slice Ag R.length cg).ownBlock = some k) => og.lt k hk
  have o0 := own_keep o0 hb6
  have ox := own_keep ho4 hb6
  have b0 := b0.next hb6
  have hB6 := hB4.trans (hb6.mono hB4.size)
  have hs46 := hb6.size
  clear hB4 hb6 ho4
  obtain ⟨_, p1, p2, p3⟩ := id b0
  go_wp2_with fail
  obtain ⟨w6', hw6⟩ : ∃ w6', w6' = w6.alloc (.cells #[.int .i64 X, .int .i64 Y, .slice Ag R.length cg] 31) := ⟨_, rfl⟩
  have bg : Bx w6.heap.size w6' X Y Ag R.length cg := by rw [hw6]; exact Bx.start _ _ _ _ _ _ _
  have hs6 := bg.lt
  have hb6' : Below w6.heap.size w6 w6' := by rw [hw6]; exact (Below.refl _ _).alloc (Nat.le_refl _) _
  have o0 := own_keep o0 hb6'
  have ox := own_keep ox hb6'
  have og := own_keep og hb6'
  have b0 := b0.next hb6'
  have hB6' := hB6.trans (hb6'.mono hB6.size)
  rw [← hw6]
  clear hw6 hb6' hB6 p1 p2 p3
  refine (eqCut_same X Y Ag A0 R.length cg c0 R _ rfl hRn (own_cap og) (own_cap o0) (sqs_of_own og) (sqs_of_own o0)).mono ?_
  rintro e w7 ⟨rfl, hb7⟩
  have o0 := own_keep o0 hb7
  have og := own_keep og hb7
  have ox := own_keep ox hb7
  have b0 := b0.next hb7
  have bg := bg.next hb7
  have hs67 := hb7.size
  have hB7 := hB6'.trans (hb7.mono hB6'.size)
  clear hB6' hb7
  go_wp2_with fail
  refine (toIntS_any A L.length c L w7 rfl hn ((hL.below hB7).mono hB7.size)).mono ?_
  rintro e w8 ⟨g8, rfl, hb8, ho8⟩
  have o0 := own_keep o0 hb8
  have og := own_keep og hb8
  have ox := own_keep ox hb8
  have b0 := b0.next hb8
  have bg := bg.next hb8
  have hs78 := hb8.size
  have hB8 := hB7.trans (hb8.mono hB7.size)
  clear hB7 hb8
  go_wp2_with fail
  refine (eqIntS_same _ _ L.length _ _ L w8 rfl hn (own_cap ox) (own_cap ho8) (ints_of_own ox) (ints_of_own ho8)).mono ?_
  rintro e w9 ⟨rfl, hb9⟩
  have o0 := own_keep o0 hb9
  have og := own_keep og hb9
  have ox := own_keep ox hb9
  have b0 := b0.next hb9
  have bg := bg.next hb9
  have hs89 := hb9.size
  have hB9 := hB8.trans (hb9.mono hB8.size)
  clear hB8 hb9 ho8
  go_wp2_with fail
  refine (markIntS_any _ _ _ _ _ 1 _ hn (by decide) (by decide) ox).mono ?_
  rintro e w10 ⟨rfl, ho10, hgr⟩
  have hs910 := hgr.size
  have o0 := own_far o0 hgr (fun k hk he => by have := hk0.out k hk; simp [Value.ownBlock] at he; omega)
  have og := own_far og hgr (fun k hk he => by have := hkg.out k hk; simp [Value.ownBlock] at he; omega)
  have b0 := b0.far hgr (fun he => by simp [Value.ownBlock] at he; omega)
  have bg := bg.far hgr (fun he => by simp [Value.ownBlock] at he; omega)
  have hww := hB9.size
  have hB10 := hB9.grown hgr hB9.size (fun k hk => by simp [Value.ownBlock] at hk; have := hww; omega)
  have h2 : ¬ (1 : Int) + L.length < 0 := by omega
  clear hB9 hgr ox ho10
  obtain ⟨_, p1, p2, p3⟩ := id b0
  obtain ⟨_, q1, q2, q3⟩ := id bg
  go_wp2_with fail
  refine (eqCut_same X Y Ag A0 R.length cg c0 R _ rfl hRn (own_cap og) (own_cap o0) (sqs_of_own og) (sqs_of_own o0)).mono ?_
  rintro e w11 ⟨rfl, hb11⟩
  have o0 := own_keep o0 hb11
  have og := own_keep og hb11
  have b0 := b0.next hb11
  have bg := bg.next hb11
  have hs11 := hb11.size
  have hB11 := hB10.trans (hb11.mono hB10.size)
  clear hB10 hb11 p1 p2 p3 q1 q2 q3
  obtain ⟨_, q1, q2, q3⟩ := id bg
  go_wp2_with fail
  refine (markCut_any X Y Ag R.length cg _ _ 1 _ hRn (by decide) (by decide) og).mono ?_
  rintro e w12 ⟨rfl, og12, hgr⟩
  have hs12 := hgr.size
  have o0 := own_far o0 hgr (fun k hk he => by have := hk0.out k hk; have := hkg.out k he; omega)
  have b0 := b0.far hgr (fun he => by have := hkg.out _ he; omega)
  have bg := bg.far hgr (fun he => by have := hkg.out _ he; omega)
  have hww := hB11.size
  have hB12 := hB11.grown hgr hB11.size (fun k hk => by have := (hkg.out k hk).1; omega)
  clear hB11 hgr og q1 q2 q3
  have h3 : ¬ (1 : Int) + 3 * R.length < 0 := by omega
  obtain ⟨_, q1, q2, q3⟩ := id bg
  go_wp2_with fail
  refine (heldCut_any X Y Ag R.length cg 1 _ hRn (by decide) (by decide) (sqs_of_own og12)).mono ?_
  rintro e w13 ⟨rfl, hb13⟩
  have o0 := own_keep o0 hb13
  have og := own_keep og12 hb13
  have b0 := b0.next hb13
  have bg := bg.next hb13
  have hB13 := hB12.trans (hb13.mono hB12.size)
  clear hB12 hb13 og12 q1 q2 q3
  go_wp2_with fail
  refine (toIntS_any A L.length c L w13 rfl hn ((hL.below hB13).mono hB13.size)).mono ?_
  rintro e w14 ⟨g14, rfl, hb14, ho14⟩
  have o0 := own_keep o0 hb14
  have og := own_keep og hb14
  have b0 := b0.next hb14
  have bg := bg.next hb14
  have hB14 := hB13.trans (hb14.mono hB13.size)
  clear hB13 hb14
  go_wp2_with fail
  refine (fillI_any P _ _ _ L _ rfl hn (ints_of_own ho14) hwf).mono ?_
  rintro e w15 hret
  unfold RetFill at hret
  rw [HR.out, HX.out, HY.out, HK.out] at hret
  obtain ⟨Ah, ch, rfl, oh, hb15⟩ := hret
  have o0 := own_keep o0 hb15
  have og := own_keep og hb15
  have b0 := b0.next hb15
  have bg := bg.next hb15
  have hB15 := hB14.trans (hb15.mono hB14.size)
  clear hB14 hb15
  obtain ⟨_, p1, p2, p3⟩ := id b0
  go_wp2_with fail
  obtain ⟨w16, hw16⟩ : ∃ w16, w16 = w15.alloc (.cells #[.int .i64 X, .int .i64 Y, .slice Ah R.length ch] 31) := ⟨_, rfl⟩
  have hb16 : Below w15.heap.size w15 w16 := by rw [hw16]; exact (Below.refl _ _).alloc (Nat.le_refl _) _
  have o0 := own_keep o0 hb16
  have og := own_keep og hb16
  have oh := own_keep oh hb16
  have bg := bg.next hb16
  have hB16 := hB15.trans (hb16.mono hB15.size)
  rw [← hw16]
  clear hw16 hb16 p1 p2 p3 hB15 b0
  refine (eqCut_same X Y Ah A0 R.length ch c0 R _ rfl hRn (own_cap oh) (own_cap o0) (sqs_of_own oh) (sqs_of_own o0)).mono ?_
  rintro e w17 ⟨rfl, hb17⟩
  have og := own_keep og hb17
  have bg := bg.next hb17
  have hB17 := hB16.trans (hb17.mono hB16.size)
  clear hB16 hb17 o0 oh
  obtain ⟨_, q1, q2, q3⟩ := id bg
  go_wp2_with fail
  refine (heldCut_any X Y Ag R.length cg 1 _ hRn (by decide) (by decide) (sqs_of_own og)).mono ?_
  rintro e w18 ⟨rfl, hb18⟩
  have hB18 := hB17.trans (hb18.mono hB17.size)
  go_wp2_with fail
  go_ret
  exact ⟨rfl, hB18⟩

theorem lawCutSides_over (P : Int) (A : Option Addr) (n c : Nat) (w : World) (h : 1048576 < n) :
    Calls Try.prog 5 #[.int .i64 P, .slice A n c] w fun e w' => e = .returned (.bool true) ∧ Below w.heap.size w w' := by
  have h' : decide ((1048576 : Int) < (n : Int)) = true := by rw [decide_eq_true_iff]; omega
  go_enter Try.func5, Try.ntmps5
  go_wp2_with fail
  go_ret
  exact ⟨rfl, Below.refl _ _⟩
end Go.Proofs.Ytmjdmedlkcmgiaa
