/- The walk of FnExactFirstTurn. -/
import Derived.Test.YtchabjmdjpfkfaaGen
import Derived.Test.YtchabjmdjpfkfaaFirstK
set_option linter.all false
namespace Go.Proofs.Ytchabjmdjpfkfaa
open Go.RowKit

set_option maxRecDepth 100000 in
set_option maxHeartbeats 4000000 in
theorem lawFirstTurn (W H : Int) (A : Option Addr) (n c : Nat) (L : List Sq) (w : World) (hl : L.length = n) (hc : n ≤ c) (hn : n ≤ 1048576) (hL : SqsAt w w.heap.size A L) (hwf : ∀ s ∈ L, wfS s) :
    Calls Try.prog 10 #[.agg #[.int .i64 W, .int .i64 H, .slice A n c]] w fun e w' => e = .returned (.bool true) ∧ Below w.heap.size w w' := by
  subst hl
  have hRn : (firstR W H L).length ≤ 1048576 := first_room W H L
  obtain ⟨R, hR⟩ : ∃ R, firstR W H L = R := ⟨_, rfl⟩
  obtain ⟨X, hX⟩ : ∃ X, firstW W H L = X := ⟨_, rfl⟩
  obtain ⟨Y, hY⟩ : ∃ Y, firstH W H L = Y := ⟨_, rfl⟩
  obtain ⟨ok, hK⟩ : ∃ ok, dc (Good W H L) = ok := ⟨_, rfl⟩
  rw [hR] at hRn
  have HR := Lib.hid hR
  have HX := Lib.hid hX
  have HY := Lib.hid hY
  have HK := Lib.hid hK
  clear hR hX hY hK
  have h1 : (ok != ok) = false := by simp
  have Z0 := Box.start (W := W) (H := H) (c := c) (t := 46) hL
  go_enter Try.func10, Try.ntmps10
  go_wp2_with fail
  refine (szCut_ok W H A L.length c _ hn).mono ?_
  rintro e w1 ⟨rfl, hb1⟩
  have h' : ¬ (1048576 : Int) - L.length < 0 := by omega
  have Z1 := Z0.next hb1
  obtain ⟨hB1, hz1, z0, z1, z2, hL1⟩ := id Z1
  clear Z0 hb1
  go_wp2_with fail
  refine (toCut_any W H A L.length c L _ rfl hc hn (hL1.mono hB1.size)).mono ?_
  rintro e w2 ⟨g2, rfl, hb2, ho2⟩
  go_wp2_with fail
  refine (specFirst_any W H _ _ _ L _ rfl (Nat.le_refl _) (sqs_of_own ho2)).mono ?_
  rintro e w3 hret
  rw [HR.out, HX.out, HY.out, HK.out] at hret
  obtain ⟨A0, c0, rfl, o0, hb3⟩ := hret
  have hk0 := Lib.hid fun k (hk : (Value.slice A0 R.length c0).ownBlock = some k) => (o0.lt k hk).2
  have Z3 := (Z1.next hb2).next hb3
  clear z0 z1 z2 hL1 hb2 hb3 ho2 hB1 hz1 Z1
  obtain ⟨hB3, hz3, z0, z1, z2, hL3⟩ := id Z3
  go_wp2_with fail
  obtain ⟨w3', hw3⟩ : ∃ w3', w3' = w3.alloc (.cells #[.int .i64 X, .int .i64 Y, .slice A0 R.length c0] 50) := ⟨_, rfl⟩
  have b0 : Bx w3.heap.size w3' X Y A0 R.length c0 := by rw [hw3]; exact Bx.start _ _ _ _ _ _ _
  have hs3 := b0.lt
  have hb3' : Below w3.heap.size w3 w3' := by rw [hw3]; exact (Below.refl _ _).alloc (Nat.le_refl _) _
  have o0 := own_keep o0 hb3'
  have Z3' := Z3.next hb3'
  rw [← hw3]
  clear hw3 hb3' Z3 z0 z1 z2 hB3 hL3
  obtain ⟨hB3, _, z0, z1, z2, hL3⟩ := id Z3'
  refine (toCut_any W H A L.length c L _ rfl hc hn (hL3.mono hB3.size)).mono ?_
  rintro e w4 ⟨g4, rfl, hb4, ho4⟩
  have hg4 := own_lt ho4
  have hs34 := hb4.size
  have o0 := own_keep o0 hb4
  have b0 := b0.next hb4
  have Z4 := Z3'.next hb4
  clear z0 z1 z2 hL3 hb4 hB3 Z3'
  go_wp2_with fail
  obtain ⟨W5, hW5⟩ : ∃ W5, W5 = w4.alloc (.cells #[.int .i64 W, .int .i64 H, .slice (some ⟨g4, 0, none⟩) L.length L.length] 50) := ⟨_, rfl⟩
  have bx : Bx w4.heap.size W5 W H (some ⟨g4, 0, none⟩) L.length L.length := by rw [hW5]; exact Bx.start _ _ _ _ _ _ _
  have hs45 := bx.lt
  have hb5 : Below w4.heap.size w4 W5 := by rw [hW5]; exact (Below.refl _ _).alloc (Nat.le_refl _) _
  have ox := own_keep ho4 hb5
  have o0 := own_keep o0 hb5
  have b0 := b0.next hb5
  have Z5 := Z4.next hb5
  rw [← hW5]
  clear hW5 Z4 ho4 hb5
  refine (implFirstT_any W H _ _ _ L _ rfl (Nat.le_refl _) (sqs_of_own ox) hwf).mono ?_
  rintro e w6 hret
  rw [HR.out, HX.out, HY.out, HK.out] at hret
  obtain ⟨Ag, cg, rfl, og, hb6⟩ := hret
  have hkg := Lib.hid fun k (hk : (Value.slice Ag R.length cg).ownBlock = some k) => og.lt k hk
  have o0 := own_keep o0 hb6
  have ox := own_keep ox hb6
  have b0 := b0.next hb6
  have bx := bx.next hb6
  have Z6 := Z5.next hb6
  have hs56 := hb6.size
  clear Z5 hb6
  obtain ⟨_, p1, p2, p3⟩ := id b0
  go_wp2_with fail
  obtain ⟨w6', hw6⟩ : ∃ w6', w6' = w6.alloc (.cells #[.int .i64 X, .int .i64 Y, .slice Ag R.length cg] 50) := ⟨_, rfl⟩
  have bg : Bx w6.heap.size w6' X Y Ag R.length cg := by rw [hw6]; exact Bx.start _ _ _ _ _ _ _
  have hs6 := bg.lt
  have hb6' : Below w6.heap.size w6 w6' := by rw [hw6]; exact (Below.refl _ _).alloc (Nat.le_refl _) _
  have o0 := own_keep o0 hb6'
  have ox := own_keep ox hb6'
  have og := own_keep og hb6'
  have b0 := b0.next hb6'
  have bx := bx.next hb6'
  have Z6' := Z6.next hb6'
  rw [← hw6]
  clear hw6 hb6' Z6 p1 p2 p3
  refine (eqCut_same X Y Ag A0 R.length cg c0 R _ rfl hRn (own_cap og) (own_cap o0) (sqs_of_own og) (sqs_of_own o0)).mono ?_
  rintro e w7 ⟨rfl, hb7⟩
  have o0 := own_keep o0 hb7
  have og := own_keep og hb7
  have ox := own_keep ox hb7
  have b0 := b0.next hb7
  have bx := bx.next hb7
  have bg := bg.next hb7
  have hs67 := hb7.size
  have Z7 := Z6'.next hb7
  clear Z6' hb7
  obtain ⟨hB7, hz7, z0, z1, z2, hL7⟩ := id Z7
  obtain ⟨hx7, x0, x1, x2⟩ := id bx
  have hX7 := sqs_of_own ox
  have hT7 := hL7.mono hB7.size
  go_wp2_with fail
  go_region_held3 (fun w' => Below w7.heap.size w7 w' ∧ w7.heap.size ≤ w'.heap.size ∧ ∀ b o, b < w7.heap.size → w'.cell? ⟨b, o, none⟩ = w7.cell? ⟨b, o, none⟩)
    (first | exact keepS (by assumption) (by assumption) | exact ⟨(Below.refl _ _).drew, Nat.le_refl _, fun _ _ _ => rfl⟩)
    (first
      | (go_at_call 38; refine (toCut_any W H A L.length c L _ rfl hc hn (sqsS hT7 (by assumption))).mono ?_; rintro e w8 ⟨g8, rfl, hb8, ho8⟩)
      | (go_at_call 40; refine (eqCut_same W H _ _ _ _ _ L _ rfl hn (Nat.le_refl _) (Nat.le_refl _) (sqsS hX7 (by assumption)) (sqs_of_own (by assumption))).mono ?_; rintro e w9 ⟨rfl, hb9⟩))
  have hb79 := belowS (B := w7.heap.size) (wp := w9) (by assumption)
  have hs79 := hb79.size
  have o0 := own_keep o0 hb79
  have og := own_keep og hb79
  have ox := own_keep ox hb79
  have b0 := b0.next hb79
  have bg := bg.next hb79
  have bx := bx.next hb79
  have Z9 := Z7.next hb79
  clear hX7 hT7 hL7 z0 z1 z2 x0 x1 x2 hx7 hb79 Z7
  obtain ⟨hx9, x0, x1, x2⟩ := id bx
  go_wp2_with fail
  refine (markCut_any W H _ _ _ _ _ 1 _ hn (by decide) (by decide) ox).mono ?_
  rintro e w10 ⟨rfl, ho10, hgr⟩
  have hbX : Below w3'.heap.size w9 w10 := below_of_grown hgr (by omega) (fun k hk => by simp [Value.ownBlock] at hk; omega)
  have hs910 := hgr.size
  have o0 := own_far o0 hgr (fun k hk he => by have := hk0.out k hk; simp [Value.ownBlock] at he; omega)
  have og := own_far og hgr (fun k hk he => by have := hkg.out k hk; simp [Value.ownBlock] at he; omega)
  have b0 := b0.far hgr (fun he => by simp [Value.ownBlock] at he; omega)
  have bg := bg.far hgr (fun he => by simp [Value.ownBlock] at he; omega)
  have Z10 := Z9.keep hbX (by omega) hs910
  have h2 : ¬ (1 : Int) + 3 * L.length < 0 := by omega
  clear Z9 hgr hbX ox bx ho10 x0 x1 x2
  obtain ⟨_, p1, p2, p3⟩ := id b0
  obtain ⟨_, q1, q2, q3⟩ := id bg
  go_wp2_with fail
  refine (eqCut_same X Y Ag A0 R.length cg c0 R _ rfl hRn (own_cap og) (own_cap o0) (sqs_of_own og) (sqs_of_own o0)).mono ?_
  rintro e w11 ⟨rfl, hb11⟩
  have o0 := own_keep o0 hb11
  have og := own_keep og hb11
  have b0 := b0.next hb11
  have bg := bg.next hb11
  have Z11 := Z10.next hb11
  have hs11 := hb11.size
  clear Z10 hb11 p1 p2 p3 q1 q2 q3
  obtain ⟨_, q1, q2, q3⟩ := id bg
  go_wp2_with fail
  refine (markCut_any X Y Ag R.length cg _ _ 1 _ hRn (by decide) (by decide) og).mono ?_
  rintro e w12 ⟨rfl, og12, hgr⟩
  have hbX : Below W5.heap.size w11 w12 := below_of_grown hgr (by omega) (fun k hk => (hkg.out k hk).1)
  have hs12 := hgr.size
  have o0 := own_far o0 hgr (fun k hk he => by have := hk0.out k hk; have := hkg.out k he; omega)
  have b0 := b0.far hgr (fun he => by have := hkg.out _ he; omega)
  have bg := bg.far hgr (fun he => by have := hkg.out _ he; omega)
  have Z12 := Z11.keep hbX (by omega) hs12
  clear Z11 hgr hbX og q1 q2 q3
  have h3 : ¬ (1 : Int) + 3 * R.length < 0 := by omega
  obtain ⟨_, q1, q2, q3⟩ := id bg
  go_wp2_with fail
  refine (heldCut_any X Y Ag R.length cg 1 _ hRn (by decide) (by decide) (sqs_of_own og12)).mono ?_
  rintro e w13 ⟨rfl, hb13⟩
  have o0 := own_keep o0 hb13
  have og := own_keep og12 hb13
  have b0 := b0.next hb13
  have bg := bg.next hb13
  have Z13 := Z12.next hb13
  clear Z12 hb13 og12 q1 q2 q3
  obtain ⟨hB13, hz13, z0, z1, z2, hL13⟩ := id Z13
  go_wp2_with fail
  refine (toCut_any W H A L.length c L _ rfl hc hn (hL13.mono hB13.size)).mono ?_
  rintro e w14 ⟨g14, rfl, hb14, ho14⟩
  have o0 := own_keep o0 hb14
  have og := own_keep og hb14
  have b0 := b0.next hb14
  have bg := bg.next hb14
  have Z14 := Z13.next hb14
  clear Z13 hb14 z0 z1 z2 hL13 hB13 hz13
  go_wp2_with fail
  refine (implFirstT_any W H _ _ _ L _ rfl (Nat.le_refl _) (sqs_of_own ho14) hwf).mono ?_
  rintro e w15 hret
  rw [HR.out, HX.out, HY.out, HK.out] at hret
  obtain ⟨Ah, ch, rfl, oh, hb15⟩ := hret
  have o0 := own_keep o0 hb15
  have og := own_keep og hb15
  have b0 := b0.next hb15
  have bg := bg.next hb15
  have Z15 := Z14.next hb15
  clear Z14 hb15
  obtain ⟨_, p1, p2, p3⟩ := id b0
  go_wp2_with fail
  obtain ⟨w16, hw16⟩ : ∃ w16, w16 = w15.alloc (.cells #[.int .i64 X, .int .i64 Y, .slice Ah R.length ch] 50) := ⟨_, rfl⟩
  have hb16 : Below w15.heap.size w15 w16 := by rw [hw16]; exact (Below.refl _ _).alloc (Nat.le_refl _) _
  have o0 := own_keep o0 hb16
  have og := own_keep og hb16
  have oh := own_keep oh hb16
  have bg := bg.next hb16
  have Z16 := Z15.next hb16
  rw [← hw16]
  clear hw16 hb16 p1 p2 p3 Z15 b0
  refine (eqCut_same X Y Ah A0 R.length ch c0 R _ rfl hRn (own_cap oh) (own_cap o0) (sqs_of_own oh) (sqs_of_own o0)).mono ?_
  rintro e w17 ⟨rfl, hb17⟩
  have og := own_keep og hb17
  have bg := bg.next hb17
  have Z17 := Z16.next hb17
  clear Z16 hb17 o0 oh
  obtain ⟨_, q1, q2, q3⟩ := id bg
  go_wp2_with fail
  refine (heldCut_any X Y Ag R.length cg 1 _ hRn (by decide) (by decide) (sqs_of_own og)).mono ?_
  rintro e w18 ⟨rfl, hb18⟩
  have Z18 := Z17.next hb18
  go_wp2_with fail
  go_ret
  exact ⟨rfl, Z18.below⟩

theorem lawFirstTurn_over (W H : Int) (A : Option Addr) (n c : Nat) (w : World) (h : 1048576 < n) (hn : n ≤ 9223372036854775807) :
    Calls Try.prog 10 #[.agg #[.int .i64 W, .int .i64 H, .slice A n c]] w fun e w' => e = .returned (.bool true) ∧ Below w.heap.size w w' := by
  have hb0 : ∀ o : Obj, Below w.heap.size w (w.alloc o) := fun o => (Below.refl _ _).alloc (Nat.le_refl _) o
  go_enter Try.func10, Try.ntmps10
  go_wp2_with fail
  refine (szCut_over W H A n c _ h hn).mono ?_
  rintro e w1 ⟨rfl, hb1⟩
  go_wp2_with fail
  go_ret
  exact ⟨rfl, (hb0 _).trans (hb1.mono (hb0 _).size)⟩
end Go.Proofs.Ytchabjmdjpfkfaa
