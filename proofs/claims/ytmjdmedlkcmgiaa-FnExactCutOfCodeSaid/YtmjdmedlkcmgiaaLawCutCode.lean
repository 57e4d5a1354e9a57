/- The walk of FnExactCutOfCode. -/
import Derived.Test.YtmjdmedlkcmgiaaGen
import Derived.Test.YtmjdmedlkcmgiaaSSArg
set_option linter.all false
namespace Go.Proofs.Ytmjdmedlkcmgiaa
open Go.RowKit

theorem Bx.kept {B : Nat} {w w' : World} {W H : Int} {A : Option Addr} {n c : Nat} {S : Nat → Prop} (h : Bx B w W H A n c) (hK : Kept S w w') (hn : ¬ S B) : Bx B w' W H A n c := by
  have e := hK.block B h.lt hn
  have ce : ∀ o, w'.cell? ⟨B, o, none⟩ = w.cell? ⟨B, o, none⟩ := fun o => by unfold World.cell?; simp only; rw [e]
  exact ⟨Nat.lt_of_lt_of_le h.lt hK.size, (ce 0).trans h.c0, (ce 1).trans h.c1, (ce 2).trans h.c2⟩

set_option maxRecDepth 100000 in
set_option maxHeartbeats 4000000 in
theorem lawCutCode (A : Option Addr) (n c : Nat) (M : List (List Int)) (w : World) (hl : M.length = n) (hnn : n ≤ 9223372036854775807) (hmm : ∀ l ∈ M, l.length ≤ 9223372036854775807) (hL : RowsAt w w.heap.size A M) (hwf : ∀ l ∈ M, ∀ s ∈ l, wfI s) :
    Calls Try.prog 4 #[.slice A n c] w fun e w' => e = .returned (.bool true) ∧ Below w.heap.size w w' := by
  subst hl
  have hRn := codeR_len M
  obtain ⟨X, hX⟩ : ∃ X, (codeR M).1 = X := ⟨_, rfl⟩
  obtain ⟨Y, hY⟩ : ∃ Y, (codeR M).2.1 = Y := ⟨_, rfl⟩
  obtain ⟨R, hR⟩ : ∃ R, (codeR M).2.2.1 = R := ⟨_, rfl⟩
  obtain ⟨ok, hK⟩ : ∃ ok, (codeR M).2.2.2 = ok := ⟨_, rfl⟩
  rw [hR] at hRn
  have HR := Lib.hid hR
  have HX := Lib.hid hX
  have HY := Lib.hid hY
  have HK := Lib.hid hK
  clear hR hX hY hK
  have h1 : (ok != ok) = false := by simp
  go_enter Try.func4, Try.ntmps4
  go_wp2_with fail
  refine (szIntSS_any A M.length c M w rfl hnn hmm hL).mono ?_
  rintro e w1 ⟨sz, rfl, hsz, rfl⟩
  rcases hsz with rfl | ⟨hs0, hs1⟩
  · go_wp2_with fail
    go_ret
    exact ⟨rfl, Below.refl _ _⟩
  have hs0' : ¬ sz < 0 := by omega
  have hn : M.length ≤ 1048576 := by omega
  have hm : ∀ l ∈ M, l.length ≤ 1048576 := fun l hl => by have := tot_mem hl; omega
  have ht : tot M ≤ 1048576 := by omega
  clear hnn hmm hs1
  go_wp2_with fail
  refine (toIntSS_any A M.length c M w rfl hn hm hL).mono ?_
  rintro e w2 ⟨g2, R2, rfl, hR2, ho2, hb2⟩
  go_wp2_with fail
  refine (specCode_any2 _ _ _ M _ rfl hn (by have := ho2.rowsZ; rwa [hR2] at this)).mono ?_
  rintro e w3 hret
  unfold RetCode at hret
  rw [HR.out, HX.out, HY.out, HK.out] at hret
  obtain ⟨A0, c0, rfl, o0, hb3⟩ := hret
  have hk0 := Lib.hid fun k (hk : (Value.slice A0 R.length c0).ownBlock = some k) => (o0.lt k hk).2
  have hB3 := hb2.trans (hb3.mono hb2.size)
  clear hb2 hb3 ho2
  go_wp2_with fail
  obtain ⟨w3', hw3⟩ : ∃ w3', w3' = w3.alloc (.cells #[.int .i64 X, .int .i64 Y, .slice A0 R.length c0] 31) := ⟨_, rfl⟩
  have b0 : Bx w3.heap.size w3' X Y A0 R.length c0 := by rw [hw3]; exact Bx.start _ _ _ _ _ _ _
  have hs3 := b0.lt
  have hb3' : Below w3.heap.size w3 w3' := by rw [hw3]; exact (Below.refl _ _).alloc (Nat.le_refl _) _
  have o0 := own_keep o0 hb3'
  have hB3 := hB3.trans (hb3'.mono hB3.size)
  have hs03 := hB3.size
  rw [← hw3]
  clear hw3 hb3'
  refine (toIntSS_any A M.length c M w3' rfl hn hm ((hL.below hB3).mono hB3.size)).mono ?_
  rintro e w4 ⟨g4, R4, rfl, hR4, ho4, hb4⟩
  have hg4 := Lib.hid fun k (hk : Blk (some ⟨g4, 0, none⟩) M.length M.length R4 k) => ho4.lt hk
  have hs34 := hb4.size
  have o0 := own_keep o0 hb4
  have b0 := b0.next hb4
  have hB4 := hB3.trans (hb4.mono hB3.size)
  have hs04 := hB4.size
  clear hb4 hB3
  go_wp2_with fail
  refine (implCutCode_any _ _ _ M _ rfl hn (by have := ho4.rowsZ; rwa [hR4] at this) hwf).mono ?_
  rintro e w6 hret
  unfold RetCode at hret
  rw [HR.out, HX.out, HY.out, HK.out] at hret
  obtain ⟨Ag, cg, rfl, og, hb6⟩ := hret
  have hkg := Lib.hid fun k (hk : (Value.slice Ag R.length cg).ownBlock = some k) => og.lt k hk
  have o0 := own_keep o0 hb6
  have ox := ho4.keep hb6
  have b0 := b0.next hb6
  have hB6 := hB4.trans (hb6.mono hB4.size)
  have hs46 := hb6.size
  clear hB4 hb6 ho4
  obtain ⟨_, p1, p2, p3⟩ := id b0
  go_wp2_with fail
  obtain ⟨w6', hw6⟩ : ∃ w6', w6' = w6.alloc (.cells #[.int .i64 X, .int .i64 Y, .slice Ag R.length cg] 31) := ⟨_, rfl⟩
  have bg : Bx w6.heap.size w6' X Y Ag R.length cg := by rw [hw6]; exact Bx.start _ _ _ _ _ _ _
  have hs6 := bg.lt
  have hb6' : Below w6.heap.size w6 w6' := by rw [hw6]; exact (Below.refl _ _).alloc (Nat.le_refl _) _
  have o0 := own_keep o0 hb6'
  have ox := ox.keep hb6'
  have og := own_keep og hb6'
  have b0 := b0.next hb6'
  have hB6' := hB6.trans (hb6'.mono hB6.size)
  rw [← hw6]
  clear hw6 hb6' hB6 p1 p2 p3
  refine (eqCut_same X Y Ag A0 R.length cg c0 R _ rfl hRn (own_cap og) (own_cap o0) (sqs_of_own og) (sqs_of_own o0)).mono ?_
  rintro e w7 ⟨rfl, hb7⟩
  have o0 := own_keep o0 hb7
  have og := own_keep og hb7
  have ox := ox.keep hb7
  have b0 := b0.next hb7
  have bg := bg.next hb7
  have hs67 := hb7.size
  have hB7 := hB6'.trans (hb7.mono hB6'.size)
  clear hB6' hb7
  go_wp2_with fail
  refine (toIntSS_any A M.length c M w7 rfl hn hm ((hL.below hB7).mono hB7.size)).mono ?_
  rintro e w8 ⟨g8, R8, rfl, hR8, ho8, hb8⟩
  have o0 := own_keep o0 hb8
  have og := own_keep og hb8
  have ox := ox.keep hb8
  have b0 := b0.next hb8
  have bg := bg.next hb8
  have hs78 := hb8.size
  have hB8 := hB7.trans (hb8.mono hB7.size)
  clear hB7 hb8
  go_wp2_with fail
  refine (eqIntSS_same _ _ M.length _ _ M w8 rfl hn hm ox.cap ho8.cap (by have := ox.rows; rwa [hR4] at this) (by have := ho8.rows; rwa [hR8] at this)).mono ?_
  rintro e w9 ⟨rfl, hb9⟩
  have o0 := own_keep o0 hb9
  have og := own_keep og hb9
  have ox := ox.keep hb9
  have b0 := b0.next hb9
  have bg := bg.next hb9
  have hs89 := hb9.size
  have hB9 := hB8.trans (hb9.mono hB8.size)
  clear hB8 hb9 ho8
  go_wp2_with fail
  refine (markIntSS_any _ _ _ _ R4 1 _ hn (by rw [hR4]; exact ht) (by decide) (by decide) ox).mono ?_
  rintro e w10 ⟨rfl, ho10, hgr⟩
  rw [hR4]
  have hs910 := hgr.size
  have o0 := own_kept o0 hgr (fun k hk he => by have := hk0.out k hk; have := (hg4.out k he).1; omega)
  have og := own_kept og hgr (fun k hk he => by have := hkg.out k hk; have := (hg4.out k he).2; omega)
  have b0 := b0.kept hgr (fun he => by have := (hg4.out _ he).1; omega)
  have bg := bg.kept hgr (fun he => by have := (hg4.out _ he).2; omega)
  have hww := hB9.size
  have hB10 : Below w.heap.size w w10 := hB9.trans (hgr.below hB9.size (fun k hk => by have := (hg4.out k hk).1; omega))
  have h2 : ¬ (1 : Int) + (tot M : Int) < 0 := by omega
  clear hB9 hgr ox ho10
  obtain ⟨_, p1, p2, p3⟩ := id b0
  obtain ⟨_, q1, q2, q3⟩ := id bg
  go_wp2_with fail
  refine (eqCut_same X Y Ag A0 R.length cg c0 R _ rfl hRn (own_cap og) (own_cap o0) (sqs_of_own og) (sqs_of_own o0)).mono ?_
  rintro e w11 ⟨rfl, hb11⟩
  have o0 := own_keep o0 hb11
  have og := own_keep og hb11
  have b0 := b0.next hb11
  have bg := bg.next hb11
  have hs11 := hb11.size
  have hB11 := hB10.trans (hb11.mono hB10.size)
  clear hB10 hb11 p1 p2 p3 q1 q2 q3
  obtain ⟨_, q1, q2, q3⟩ := id bg
  go_wp2_with fail
  refine (markCut_any X Y Ag R.length cg _ _ 1 _ hRn (by decide) (by decide) og).mono ?_
  rintro e w12 ⟨rfl, og12, hgr⟩
  have hs12 := hgr.size
  have o0 := own_far o0 hgr (fun k hk he => by have := hk0.out k hk; have := hkg.out k he; omega)
  have b0 := b0.far hgr (fun he => by have := hkg.out _ he; omega)
  have bg := bg.far hgr (fun he => by have := hkg.out _ he; omega)
  have hww := hB11.size
  have hB12 := hB11.grown hgr hB11.size (fun k hk => by have := (hkg.out k hk).1; omega)
  clear hB11 hgr og q1 q2 q3
  have h3 : ¬ (1 : Int) + 3 * R.length < 0 := by omega
  obtain ⟨_, q1, q2, q3⟩ := id bg
  go_wp2_with fail
  refine (heldCut_any X Y Ag R.length cg 1 _ hRn (by decide) (by decide) (sqs_of_own og12)).mono ?_
  rintro e w13 ⟨rfl, hb13⟩
  have o0 := own_keep o0 hb13
  have og := own_keep og12 hb13
  have b0 := b0.next hb13
  have bg := bg.next hb13
  have hB13 := hB12.trans (hb13.mono hB12.size)
  clear hB12 hb13 og12 q1 q2 q3
  go_wp2_with fail
  refine (toIntSS_any A M.length c M w13 rfl hn hm ((hL.below hB13).mono hB13.size)).mono ?_
  rintro e w14 ⟨g14, R14, rfl, hR14, ho14, hb14⟩
  have o0 := own_keep o0 hb14
  have og := own_keep og hb14
  have b0 := b0.next hb14
  have bg := bg.next hb14
  have hB14 := hB13.trans (hb14.mono hB13.size)
  clear hB13 hb14
  go_wp2_with fail
  refine (implCutCode_any _ _ _ M _ rfl hn (by have := ho14.rowsZ; rwa [hR14] at this) hwf).mono ?_
  rintro e w15 hret
  unfold RetCode at hret
  rw [HR.out, HX.out, HY.out, HK.out] at hret
  obtain ⟨Ah, ch, rfl, oh, hb15⟩ := hret
  have o0 := own_keep o0 hb15
  have og := own_keep og hb15
  have b0 := b0.next hb15
  have bg := bg.next hb15
  have hB15 := hB14.trans (hb15.mono hB14.size)
  clear hB14 hb15
  obtain ⟨_, p1, p2, p3⟩ := id b0
  go_wp2_with fail
  obtain ⟨w16, hw16⟩ : ∃ w16, w16 = w15.alloc (.cells #[.int .i64 X, .int .i64 Y, .slice Ah R.length ch] 31) := ⟨_, rfl⟩
  have hb16 : Below w15.heap.size w15 w16 := by rw [hw16]; exact (Below.refl _ _).alloc (Nat.le_refl _) _
  have o0 := own_keep o0 hb16
  have og := own_keep og hb16
  have oh := own_keep oh hb16
  have bg := bg.next hb16
  have hB16 := hB15.trans (hb16.mono hB15.size)
  rw [← hw16]
  clear hw16 hb16 p1 p2 p3 hB15 b0
  refine (eqCut_same X Y Ah A0 R.length ch c0 R _ rfl hRn (own_cap oh) (own_cap o0) (sqs_of_own oh) (sqs_of_own o0)).mono ?_
  rintro e w17 ⟨rfl, hb17⟩
  have og := own_keep og hb17
  have bg := bg.next hb17
  have hB17 := hB16.trans (hb17.mono hB16.size)
  clear hB16 hb17 o0 oh
  obtain ⟨_, q1, q2, q3⟩ := id bg
  go_wp2_with fail
  refine (heldCut_any X Y Ag R.length cg 1 _ hRn (by decide) (by decide) (sqs_of_own og)).mono ?_
  rintro e w18 ⟨rfl, hb18⟩
  have hB18 := hB17.trans (hb18.mono hB17.size)
  go_wp2_with fail
  go_ret
  exact ⟨rfl, hB18⟩

end Go.Proofs.Ytmjdmedlkcmgiaa
