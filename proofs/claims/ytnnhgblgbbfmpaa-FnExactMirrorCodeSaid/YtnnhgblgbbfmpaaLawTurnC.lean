/- The walk of FnExactTurnCode. -/
import Derived.Test.YtnnhgblgbbfmpaaGen
import Derived.Test.YtnnhgblgbbfmpaaCodeT
import Derived.Test.YtnnhgblgbbfmpaaSSL
set_option linter.all false
namespace Go.Proofs.Ytnnhgblgbbfmpaa
open Go.RowKit

set_option maxRecDepth 100000 in
set_option maxHeartbeats 4000000 in
theorem lawTurnCode (A : Option Addr) (n c : Nat) (M : List (List Int)) (w : World) (hl : M.length = n) (hnn : n ≤ 9223372036854775807) (hmm : ∀ l ∈ M, l.length ≤ 9223372036854775807) (hL : RowsAt w w.heap.size A M) (hwf : ∀ l ∈ M, ∀ s ∈ l, wfI s) :
    Calls Try.prog 5 #[.slice A n c] w fun e w' => e = .returned (.bool true) ∧ Below w.heap.size w w' := by
  subst hl
  obtain ⟨X, hX⟩ : ∃ X, (codeR M).1 = X := ⟨_, rfl⟩
  obtain ⟨Y, hY⟩ : ∃ Y, (codeR M).2.1 = Y := ⟨_, rfl⟩
  obtain ⟨G, hG⟩ : ∃ R, (codeR M).2.2.1 = R := ⟨_, rfl⟩
  obtain ⟨kk, hK⟩ : ∃ ok, (codeR M).2.2.2 = ok := ⟨_, rfl⟩
  obtain ⟨P, hP⟩ : ∃ P, cutX X Y G Y = P := ⟨_, rfl⟩
  obtain ⟨Q, hQ⟩ : ∃ Q, cutX X Y G X = Q := ⟨_, rfl⟩
  obtain ⟨T, hT⟩ : ∃ T, ifGood X Y G (srt (turnL Y G)) = T := ⟨_, rfl⟩
  have hRt : (ifGood P Q T (glists (grps T))).length + tot (ifGood P Q T (glists (grps T))) ≤ 1048576 := by
    by_cases hg : Good P Q T
    · rw [ifGood_yes hg]
      have b := grps_bd T T.length
      rw [List.take_of_length_le (Nat.le_refl _)] at b
      have := hg.2.2.1.2
      simp only [glists, List.length_map] at b ⊢
      omega
    · rw [ifGood_no hg]; simp [tot]
  obtain ⟨R, hR⟩ : ∃ R, ifGood P Q T (glists (grps T)) = R := ⟨_, rfl⟩
  obtain ⟨ok, hOK⟩ : ∃ ok, dc (Good P Q T) = ok := ⟨_, rfl⟩
  rw [hR] at hRt
  have hRn : R.length ≤ 1048576 := by omega
  have hRm : ∀ l ∈ R, l.length ≤ 1048576 := fun l hl => by have := tot_mem hl; omega
  have hRT : tot R ≤ 1048576 := by omega
  have CS : Hid (∀ (A : Option Addr) (c : Nat) (w : World), M.length ≤ 1048576 → RowsZ w w.heap.size A M → Calls Try.prog 25 #[.slice A M.length c] w (RetSS w R ok)) := Lib.hid fun A c w hn hM => by
    have := specTurnCode_any A _ c M X Y G kk w rfl hn hM hX hY hG hK hP hQ hT
    rwa [hR, hOK] at this
  have CI : Hid (∀ (A : Option Addr) (c : Nat) (w : World), M.length ≤ 1048576 → RowsZ w w.heap.size A M → Calls Try.prog 27 #[.slice A M.length c] w (RetSS w R ok)) := Lib.hid fun A c w hn hM => by
    have := implTurnCode_any A _ c M X Y G kk w rfl hn hM hwf hX hY hG hK hP hQ hT
    rwa [hR, hOK] at this
  clear hRt hX hY hG hK hP hQ hT hR hOK hwf
  have h1 : (ok != ok) = false := by simp
  go_enter Try.func5, Try.ntmps5
  go_wp2_with fail
  refine (szIntSS_any A M.length c M w rfl hnn hmm hL).mono ?_
  rintro e w1 ⟨sz, rfl, hsz, rfl⟩
  rcases hsz with rfl | ⟨hs0, hs1⟩
  · go_wp2_with fail
    go_ret
    exact ⟨rfl, Below.refl _ _⟩
  have hs0' : ¬ sz < 0 := by omega
  have hn : M.length ≤ 1048576 := by omega
  have hm : ∀ l ∈ M, l.length ≤ 1048576 := fun l hl => by have := tot_mem hl; omega
  have ht : tot M ≤ 1048576 := by omega
  clear hnn hmm hs1
  go_wp2_with fail
  refine (toIntSS_any A M.length c M w rfl hn hm hL).mono ?_
  rintro e w2 ⟨g2, R2, rfl, hR2, ho2, hb2⟩
  go_wp2_with fail
  refine (CS.out _ _ _ hn (by have := ho2.rowsZ; rwa [hR2] at this)).mono ?_
  rintro e w3 ⟨A0, c0, R0, rfl, m0, o0, hb3⟩
  have hk0 := Lib.hid fun k (hk : Blk A0 R.length c0 R0 k) => (o0.lt hk).2
  have M0 := Lib.hid m0
  have hB3 := hb2.trans (hb3.mono hb2.size)
  have hs03 := hB3.size
  clear m0 hb2 hb3 ho2
  go_wp2_with fail
  refine (toIntSS_any A M.length c M w3 rfl hn hm ((hL.below hB3).mono hB3.size)).mono ?_
  rintro e w4 ⟨g4, R4, rfl, hR4, ho4, hb4⟩
  have hg4 := Lib.hid fun k (hk : Blk (some ⟨g4, 0, none⟩) M.length M.length R4 k) => ho4.lt hk
  have hs34 := hb4.size
  have o0 := o0.keep hb4
  have hB4 := hB3.trans (hb4.mono hB3.size)
  have hs04 := hB4.size
  clear hb4 hB3
  go_wp2_with fail
  refine (CI.out _ _ _ hn (by have := ho4.rowsZ; rwa [hR4] at this)).mono ?_
  rintro e w6 ⟨Ag, cg, Rg, rfl, mg, og, hb6⟩
  have hkg := Lib.hid fun k (hk : Blk Ag R.length cg Rg k) => og.lt hk
  have MG := Lib.hid mg
  have o0 := o0.keep hb6
  have ox := ho4.keep hb6
  have hB6 := hB4.trans (hb6.mono hB4.size)
  have hs46 := hb6.size
  clear hB4 hb6 ho4 mg
  go_wp2_with fail
  refine (eqIntSS_same Ag A0 R.length cg c0 R _ rfl hRn hRm og.cap o0.cap (by have h := og.rows; rw [MG.out] at h; exact h) (by have h := o0.rows; rw [M0.out] at h; exact h)).mono ?_
  rintro e w7 ⟨rfl, hb7⟩
  have o0 := o0.keep hb7
  have og := og.keep hb7
  have ox := ox.keep hb7
  have hs67 := hb7.size
  have hB7 := hB6.trans (hb7.mono hB6.size)
  clear hB6 hb7
  go_wp2_with fail
  refine (toIntSS_any A M.length c M w7 rfl hn hm ((hL.below hB7).mono hB7.size)).mono ?_
  rintro e w8 ⟨g8, R8, rfl, hR8, ho8, hb8⟩
  have o0 := o0.keep hb8
  have og := og.keep hb8
  have ox := ox.keep hb8
  have hs78 := hb8.size
  have hB8 := hB7.trans (hb8.mono hB7.size)
  clear hB7 hb8
  go_wp2_with fail
  refine (eqIntSS_same _ _ M.length _ _ M w8 rfl hn hm ox.cap ho8.cap (by have := ox.rows; rwa [hR4] at this) (by have := ho8.rows; rwa [hR8] at this)).mono ?_
  rintro e w9 ⟨rfl, hb9⟩
  have o0 := o0.keep hb9
  have og := og.keep hb9
  have ox := ox.keep hb9
  have hs89 := hb9.size
  have hB9 := hB8.trans (hb9.mono hB8.size)
  clear hB8 hb9 ho8
  go_wp2_with fail
  refine (markIntSS_any _ _ _ _ R4 1 _ hn (by rw [hR4]; exact ht) (by decide) (by decide) ox).mono ?_
  rintro e w10 ⟨rfl, ho10, hgr⟩
  rw [hR4]
  have hs910 := hgr.size
  have o0 := o0.kept hgr (fun k hk he => by have := hk0.out k hk; have := (hg4.out k he).1; omega)
  have og := og.kept hgr (fun k hk he => by have := hkg.out k hk; have := (hg4.out k he).2; omega)
  have hww := hB9.size
  have hB10 : Below w.heap.size w w10 := hB9.trans (hgr.below hB9.size (fun k hk => by have := (hg4.out k hk).1; omega))
  have h2 : ¬ (1 : Int) + (tot M : Int) < 0 := by omega
  clear hB9 hgr ox ho10
  go_wp2_with fail
  refine (eqIntSS_same Ag A0 R.length cg c0 R _ rfl hRn hRm og.cap o0.cap (by have h := og.rows; rw [MG.out] at h; exact h) (by have h := o0.rows; rw [M0.out] at h; exact h)).mono ?_
  rintro e w11 ⟨rfl, hb11⟩
  have o0 := o0.keep hb11
  have og := og.keep hb11
  have hs11 := hb11.size
  have hB11 := hB10.trans (hb11.mono hB10.size)
  clear hB10 hb11
  go_wp2_with fail
  have CM := markIntSS_any Ag R.length cg _ Rg 1 _ hRn (by rw [MG.out]; exact hRT) (by decide) (by decide) og
  rw [MG.out] at CM
  refine CM.mono ?_
  rintro e w12 ⟨rfl, og12, hgr⟩
  clear CM
  have hs12 := hgr.size
  have hww := hB11.size
  have o0 := o0.kept hgr (fun k hk he => by have := hk0.out k hk; have := (hkg.out k he).1; omega)
  have hB12 : Below w.heap.size w w12 := hB11.trans (hgr.below hB11.size (fun k hk => by have := (hkg.out k hk).1; omega))
  clear hB11 hgr og
  go_wp2_with fail
  refine (heldIntSS_any Ag R.length cg R 1 _ rfl hRn hRT (by decide) (by decide) (by have h := og12.rows; rw [mkM_lists, MG.out] at h; exact h)).mono ?_
  rintro e w12' ⟨rfl, rfl⟩
  have h3 : ¬ (1 : Int) + (tot R : Int) < 0 := by omega
  go_wp2_with fail
  refine (toIntSS_any A M.length c M w12 rfl hn hm ((hL.below hB12).mono hB12.size)).mono ?_
  rintro e w14 ⟨g14, R14, rfl, hR14, ho14, hb14⟩
  have o0 := o0.keep hb14
  have og := og12.keep hb14
  have hB14 := hB12.trans (hb14.mono hB12.size)
  clear hB12 hb14 og12
  go_wp2_with fail
  refine (CI.out _ _ _ hn (by have := ho14.rowsZ; rwa [hR14] at this)).mono ?_
  rintro e w15 ⟨Ah, ch, Rh, rfl, mh, oh, hb15⟩
  have MH := Lib.hid mh
  have o0 := o0.keep hb15
  have og := og.keep hb15
  have hB15 := hB14.trans (hb15.mono hB14.size)
  clear hB14 hb15 mh
  go_wp2_with fail
  refine (eqIntSS_same Ah A0 R.length ch c0 R _ rfl hRn hRm oh.cap o0.cap (by have h := oh.rows; rw [MH.out] at h; exact h) (by have h := o0.rows; rw [M0.out] at h; exact h)).mono ?_
  rintro e w16 ⟨rfl, hb16⟩
  have og := og.keep hb16
  have hB16 := hB15.trans (hb16.mono hB15.size)
  clear hB15 hb16 o0 oh
  go_wp2_with fail
  refine (heldIntSS_any Ag R.length cg R 1 _ rfl hRn hRT (by decide) (by decide) (by have h := og.rows; rw [mkM_lists, MG.out] at h; exact h)).mono ?_
  rintro e w17 ⟨rfl, rfl⟩
  go_wp2_with fail
  go_ret
  exact ⟨rfl, hB16⟩
end Go.Proofs.Ytnnhgblgbbfmpaa
