/- The walk of FnExactFirstCode. -/
import Derived.Test.YtchabjmdjpfkfaaLaws
import Derived.Test.YtchabjmdjpfkfaaFirstL
set_option linter.all false
namespace Go.Proofs.Ytchabjmdjpfkfaa
open Go.RowKit

theorem ifGood_bdFirstC {W H : Int} {L : List Sq} {M : List (List Int)} (h : Good W H L → M.length + tot M ≤ 1048576) : (ifGood W H L M).length + tot (ifGood W H L M) ≤ 1048576 := by
  by_cases hG : Good W H L
  · rw [ifGood_yes hG]; exact h hG
  · rw [ifGood_no hG]; simp [tot]
set_option maxRecDepth 100000 in
set_option maxHeartbeats 2000000 in
theorem lawFirstCode (W H : Int) (A : Option Addr) (n c : Nat) (L : List Sq) (w : World) (hl : L.length = n) (hc : n ≤ c) (hn : n ≤ 1048576) (hL : SqsAt w w.heap.size A L) (hwf : ∀ s ∈ L, wfS s) :
    Calls Try.prog 12 #[.agg #[.int .i64 W, .int .i64 H, .slice A n c]] w fun e w' => e = .returned (.bool true) ∧ Below w.heap.size w w' := by
  subst hl
  have hRt : (codeF W H L).length + tot (codeF W H L) ≤ 1048576 := codeF_room W H L
  obtain ⟨R, hR⟩ : ∃ R, codeF W H L = R := ⟨_, rfl⟩
  obtain ⟨ok, hK⟩ : ∃ ok, dc (Good W H L) = ok := ⟨_, rfl⟩
  rw [hR] at hRt
  have hRn : R.length ≤ 1048576 := by omega
  have hRm : ∀ l ∈ R, l.length ≤ 1048576 := fun l hl => by have := tot_mem hl; omega
  have hRT : tot R ≤ 1048576 := by omega
  clear hRt
  have HR := Lib.hid hR
  have HK := Lib.hid hK
  clear hR hK
  have Z0 := Box.start (W := W) (H := H) (c := c) (t := 46) hL
  go_enter Try.func12, Try.ntmps12
  go_wp2_with fail
  refine (szCut_ok W H A L.length c _ hn).mono ?_
  rintro e w1 ⟨rfl, hb1⟩
  have h' : ¬ (1048576 : Int) - L.length < 0 := by omega
  have Z1 := Z0.next hb1
  obtain ⟨hB1, hz1, b0, b1, b2, hL1⟩ := id Z1
  clear Z0 hb1
  go_wp2_with fail
  refine (toCut_any W H A L.length c L _ rfl hc hn (hL1.mono hB1.size)).mono ?_
  rintro e w2 ⟨g2, rfl, hb2, ho2⟩
  go_wp2_with fail
  refine (specFirstCode_any W H _ _ _ L _ rfl (Nat.le_refl _) (sqs_of_own ho2)).mono ?_
  rintro e w3 hret
  rw [HR.out, HK.out] at hret
  obtain ⟨A0, c0, R0, rfl, m0, o0, hb3⟩ := hret
  have hk0 := Lib.hid fun k (hk : Blk A0 R.length c0 R0 k) => (o0.lt hk).2
  have M0 := Lib.hid m0
  clear m0
  have Z3 := (Z1.next hb2).next hb3
  obtain ⟨hB3, hz3, q0, q1, q2, hL3⟩ := id Z3
  clear b0 b1 b2 hL1 hb2 hb3 ho2 hB1 hz1 Z1
  go_wp2_with fail
  refine (toCut_any W H A L.length c L _ rfl hc hn (hL3.mono hB3.size)).mono ?_
  rintro e w4 ⟨g4, rfl, hb4, ho4⟩
  have hg4 := own_lt ho4
  have hs34 := hb4.size
  have o0 := o0.keep hb4
  have Z4 := Z3.next hb4
  clear q0 q1 q2 hL3 hb4 hB3 Z3
  go_wp2_with fail
  obtain ⟨W5, hW5⟩ : ∃ W5, W5 = w4.alloc (.cells #[.int .i64 W, .int .i64 H, .slice (some ⟨g4, 0, none⟩) L.length L.length] 50) := ⟨_, rfl⟩
  have X5 : Box w4.heap.size w4 W5 W H (some ⟨g4, 0, none⟩) L.length L := by rw [hW5]; exact Box.start (sqs_of_own ho4)
  have hb5 : Below w4.heap.size w4 W5 := by rw [hW5]; exact (Below.refl _ _).alloc (Nat.le_refl _) _
  have ho5 := own_keep ho4 hb5
  have o0 := o0.keep hb5
  have Z5 := Z4.next hb5
  rw [← hW5]
  clear hW5 Z4 ho4 hb5
  refine (implFirstCode_any W H _ _ _ L _ rfl (Nat.le_refl _) (sqs_of_own ho5) hwf).mono ?_
  rintro e w6 hret
  rw [HR.out, HK.out] at hret
  obtain ⟨Ag, cg, Rg, rfl, mg, og, hb6⟩ := hret
  have hkg := Lib.hid fun k (hk : Blk Ag R.length cg Rg k) => (og.lt hk).1
  have MG := Lib.hid mg
  clear mg
  have o0 := o0.keep hb6
  have ho6 := own_keep ho5 hb6
  have Z6 := Z5.next hb6
  have X6 := X5.next hb6
  have hs45 := X5.lt
  have hs56 := hb6.size
  clear Z5 X5 ho5 hb6
  go_wp2_with fail
  refine (eqIntSS_same Ag A0 R.length cg c0 R _ rfl hRn hRm og.cap o0.cap (by have h := og.rows; rw [MG.out] at h; exact h) (by have h := o0.rows; rw [M0.out] at h; exact h)).mono ?_
  rintro e w7 ⟨rfl, hb7⟩
  have o0 := o0.keep hb7
  have og := og.keep hb7
  have ho7 := own_keep ho6 hb7
  have hs67 := hb7.size
  have Z7 := Z6.next hb7
  have X7 := X6.next hb7
  clear Z6 X6 ho6 hb7
  obtain ⟨hB7, hz7, z0, z1, z2, hL7⟩ := id Z7
  obtain ⟨hB7', hx7, x0, x1, x2, _⟩ := id X7
  have hX7 := sqs_of_own ho7
  have hT7 := hL7.mono hB7.size
  have h1 : (ok != ok) = false := by simp
  go_wp2_with fail
  go_region_held3 (fun w' => Below w7.heap.size w7 w' ∧ w7.heap.size ≤ w'.heap.size ∧ ∀ b o, b < w7.heap.size → w'.cell? ⟨b, o, none⟩ = w7.cell? ⟨b, o, none⟩)
    (first | exact keepS (by assumption) (by assumption) | exact ⟨(Below.refl _ _).drew, Nat.le_refl _, fun _ _ _ => rfl⟩)
    (first
      | (go_at_call 38; refine (toCut_any W H A L.length c L _ rfl hc hn (sqsS hT7 (by assumption))).mono ?_; rintro e w8 ⟨g8, rfl, hb8, ho8⟩)
      | (go_at_call 40; refine (eqCut_same W H _ _ _ _ _ L _ rfl hn (Nat.le_refl _) (Nat.le_refl _) (sqsS hX7 (by assumption)) (sqs_of_own (by assumption))).mono ?_; rintro e w9 ⟨rfl, hb9⟩))
  have hb79 := belowS (B := w7.heap.size) (wp := w9) (by assumption)
  have hs79 := hb79.size
  have o0 := o0.keep hb79
  have og := og.keep hb79
  have ho9 := own_keep ho7 hb79
  have Z9 := Z7.next hb79
  have X9 := X7.next hb79
  obtain ⟨_, hx9, x0, x1, x2, _⟩ := id X9
  have hs39 : w3.heap.size ≤ w9.heap.size := by omega
  clear Z7 X7 X9 ho7 hX7 hT7 hL7 z0 z1 z2 hb79
  go_wp2_with fail
  refine (markCut_any W H _ _ _ _ _ 1 _ hn (by decide) (by decide) ho9).mono ?_
  rintro e w10 ⟨rfl, ho10, hgr⟩
  have hbX : Below w3.heap.size w9 w10 := below_of_grown hgr hs39 (fun k hk => by simp [Value.ownBlock] at hk; omega)
  have hs910 := hgr.size
  have o0 := o0.far hgr (fun k hk he => by have := hk0.out k hk; simp [Value.ownBlock] at he; omega)
  have og := og.far hgr (fun k hk he => by have := hkg.out k hk; simp [Value.ownBlock] at he; omega)
  have Z10 := Z9.keep hbX (by omega) hs910
  have h2 : ¬ (1 : Int) + 3 * L.length < 0 := by omega
  clear Z9 hgr hbX ho9 ho10 x0 x1 x2
  go_wp2_with fail
  refine (eqIntSS_same Ag A0 R.length cg c0 R _ rfl hRn hRm og.cap o0.cap (by have h := og.rows; rw [MG.out] at h; exact h) (by have h := o0.rows; rw [M0.out] at h; exact h)).mono ?_
  rintro e w11 ⟨rfl, hb11⟩
  have o0 := o0.keep hb11
  have og := og.keep hb11
  have Z11 := Z10.next hb11
  have hs11 := hb11.size
  clear Z10 hb11
  go_wp2_with fail
  have CM := markIntSS_any Ag R.length cg _ Rg 1 _ hRn (by rw [MG.out]; exact hRT) (by decide) (by decide) og
  rw [MG.out] at CM
  refine CM.mono ?_
  rintro e w12 ⟨rfl, og12, hgr⟩
  clear CM
  have hbX : Below W5.heap.size w11 w12 := hgr.below (by omega) (fun k hk => hkg.out k hk)
  have hs12 := hgr.size
  have o0 := o0.kept hgr (fun k hk he => by have := hk0.out k hk; have := hkg.out k he; omega)
  have Z12 := Z11.keep hbX (by omega) hs12
  clear Z11 hgr hbX og
  go_wp2_with fail
  refine (heldIntSS_any Ag R.length cg R 1 _ rfl hRn hRT (by decide) (by decide) (by have h := og12.rows; rw [mkM_lists, MG.out] at h; exact h)).mono ?_
  rintro e w12' ⟨rfl, rfl⟩
  have h3 : ¬ (1 : Int) + (tot R : Int) < 0 := by omega
  obtain ⟨hB12, hz12, z0, z1, z2, hL12⟩ := id Z12
  go_wp2_with fail
  refine (toCut_any W H A L.length c L _ rfl hc hn (hL12.mono hB12.size)).mono ?_
  rintro e w13 ⟨g13, rfl, hb13, ho13⟩
  have o0 := o0.keep hb13
  have og := og12.keep hb13
  have Z13 := Z12.next hb13
  clear Z12 og12 hb13 z0 z1 z2 hL12
  go_wp2_with fail
  refine (implFirstCode_any W H _ _ _ L _ rfl (Nat.le_refl _) (sqs_of_own ho13) hwf).mono ?_
  rintro e w14 hret
  rw [HR.out, HK.out] at hret
  obtain ⟨Ah, ch, Rh, rfl, mh, oh, hb14⟩ := hret
  have MH := Lib.hid mh
  clear mh
  have o0 := o0.keep hb14
  have og := og.keep hb14
  have Z14 := Z13.next hb14
  clear Z13 hb14
  go_wp2_with fail
  refine (eqIntSS_same Ah A0 R.length ch c0 R _ rfl hRn hRm oh.cap o0.cap (by have h := oh.rows; rw [MH.out] at h; exact h) (by have h := o0.rows; rw [M0.out] at h; exact h)).mono ?_
  rintro e w15 ⟨rfl, hb15⟩
  have og := og.keep hb15
  have Z15 := Z14.next hb15
  clear Z14 hb15 o0 oh
  go_wp2_with fail
  refine (heldIntSS_any Ag R.length cg R 1 _ rfl hRn hRT (by decide) (by decide) (by have h := og.rows; rw [mkM_lists, MG.out] at h; exact h)).mono ?_
  rintro e w15' ⟨rfl, rfl⟩
  go_wp2_with fail
  go_ret
  exact ⟨rfl, Z15.below⟩

theorem lawFirstCode_over (W H : Int) (A : Option Addr) (n c : Nat) (w : World) (h : 1048576 < n) (hn : n ≤ 9223372036854775807) :
    Calls Try.prog 12 #[.agg #[.int .i64 W, .int .i64 H, .slice A n c]] w fun e w' => e = .returned (.bool true) ∧ Below w.heap.size w w' := by
  have hb0 : ∀ o : Obj, Below w.heap.size w (w.alloc o) := fun o => (Below.refl _ _).alloc (Nat.le_refl _) o
  go_enter Try.func12, Try.ntmps12
  go_wp2_with fail
  refine (szCut_over W H A n c _ h hn).mono ?_
  rintro e w1 ⟨rfl, hb1⟩
  go_wp2_with fail
  go_ret
  exact ⟨rfl, (hb0 _).trans (hb1.mono (hb0 _).size)⟩
end Go.Proofs.Ytchabjmdjpfkfaa
