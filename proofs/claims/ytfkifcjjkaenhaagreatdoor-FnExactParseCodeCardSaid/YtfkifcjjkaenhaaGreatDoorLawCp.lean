/- The walk of FnExactParseCode. -/
import Derived.Test.YtfkifcjjkaenhaaGreatDoorCpZ
set_option linter.all false
namespace Go.Proofs.YtfkifcjjkaenhaaGreatDoor
open Go.RowKit
set_option maxRecDepth 100000 in
set_option maxHeartbeats 2000000 in
theorem lawParseCode (s : ByteArray) (w : World) (hs : s.size ≤ maxLen) (hT : StrOk w) :
    Calls Tryz.prog 3 #[.string s] w fun e w' => e = .returned (.bool true) ∧ Below w.heap.size w w' := by
  by_cases h : s.size ≤ 1048576
  case neg =>
    have h0 : 1048576 < (s.size : Int) := by omega
    have h1 : (s.size : Int) ≤ 9223372036854775807 := by unfold maxLen at hs; omega
    go_enter Tryz.func3, Tryz.ntmps3
    go_wp2_with fail
    go_ret
    exact ⟨rfl, Below.refl _ _⟩
  have h0 : (s.size : Int) ≤ 1048576 := by omega
  obtain ⟨l, rfl⟩ : ∃ l, bas l = s := ⟨s.data.toList, data_bas s⟩
  rw [bas_size] at h
  have c1 := fun w => (specCp_any l w).mono fun _ _ hr => hr.v
  have c2 := fun w' (hb : Below w.heap.size w w') => (implCp_any l h w' (hT.below hb)).mono fun _ _ hr => hr.v
  have hRt := cpV_bd l
  obtain ⟨R, hR⟩ : ∃ R, (cpV l).1 = R := ⟨_, rfl⟩
  obtain ⟨ok, hK⟩ : ∃ ok, (cpV l).2 = ok := ⟨_, rfl⟩
  rw [hR] at hRt
  rw [hR, hK] at c1 c2
  have hRn : R.length ≤ 1048576 := by omega
  have hRm : ∀ l ∈ R, l.length ≤ 1048576 := fun l hl => by have := tot_mem hl; omega
  have hRT : tot R ≤ 1048576 := by omega
  obtain ⟨SL, hSL⟩ : ∃ SL, bas l = SL := ⟨_, rfl⟩
  rw [hSL] at c1 c2 h0 ⊢
  have C1 := Lib.hid c1
  have C2 := Lib.hid c2
  clear c1 c2 hR hK hRt hSL
  have h1 : (ok != ok) = false := by simp
  have h3 : ¬ (1 : Int) + (tot R : Int) < 0 := by omega
  go_enter Tryz.func3, Tryz.ntmps3
  go_wp2_with fail
  refine (C1.out _).mono ?_
  rintro e w1 ⟨A0, c0, R0, rfl, m0, o0, hb1⟩
  have hk0 := Lib.hid fun k (hk : Blk A0 R.length c0 R0 k) => (o0.lt hk).2
  have M0 := Lib.hid m0
  clear m0
  go_wp2_with fail
  refine (C2.out _ hb1).mono ?_
  rintro e w2 ⟨Ag, cg, Rg, rfl, mg, og, hb2⟩
  have hkg := Lib.hid fun k (hk : Blk Ag R.length cg Rg k) => (og.lt hk).1
  have MG := Lib.hid mg
  clear mg
  have o0 := o0.keep hb2
  go_wp2_with fail
  refine (eqIntSS_same Ag A0 R.length cg c0 R _ rfl hRn hRm og.cap o0.cap (by have h := og.rows; rw [MG.out] at h; exact h) (by have h := o0.rows; rw [M0.out] at h; exact h)).mono ?_
  rintro e w3 ⟨rfl, hb3⟩
  have o0 := o0.keep hb3
  have og := og.keep hb3
  have hs12 := hb2.size
  have hs23 := hb3.size
  go_wp2_with fail
  have CM := markIntSS_any Ag R.length cg _ Rg 1 _ hRn (by rw [MG.out]; exact hRT) (by decide) (by decide) og
  rw [MG.out] at CM
  refine CM.mono ?_
  rintro e w4 ⟨rfl, og4, hgr⟩
  clear CM
  have hbX : Below w1.heap.size w3 w4 := hgr.below (by omega) (fun k hk => hkg.out k hk)
  have o0 := o0.kept hgr (fun k hk he => by have := hk0.out k hk; have := hkg.out k he; omega)
  have hs34 := hgr.size
  have hB4 := hb1.trans ((hb2.trans ((hb3.mono hs12).trans hbX)).mono hb1.size)
  clear hgr og hbX hb2 hb3
  go_wp2_with fail
  refine (heldIntSS_any Ag R.length cg R 1 _ rfl hRn hRT (by decide) (by decide) (by have h := og4.rows; rw [mkM_lists, MG.out] at h; exact h)).mono ?_
  rintro e w5 ⟨rfl, rfl⟩
  go_wp2_with fail
  refine (C2.out _ hB4).mono ?_
  rintro e w6 ⟨Ah, ch, Rh, rfl, mh, oh, hb6⟩
  have MH := Lib.hid mh
  clear mh
  have o0 := o0.keep hb6
  have og := og4.keep hb6
  clear og4
  go_wp2_with fail
  refine (eqIntSS_same Ah A0 R.length ch c0 R _ rfl hRn hRm oh.cap o0.cap (by have h := oh.rows; rw [MH.out] at h; exact h) (by have h := o0.rows; rw [M0.out] at h; exact h)).mono ?_
  rintro e w7 ⟨rfl, hb7⟩
  have og := og.keep hb7
  have hB6 := hB4.trans (hb6.mono hB4.size)
  have hB7 := hB6.trans (hb7.mono hB6.size)
  clear o0 oh hb6 hb7 hB6 hB4
  go_wp2_with fail
  refine (heldIntSS_any Ag R.length cg R 1 _ rfl hRn hRT (by decide) (by decide) (by have h := og.rows; rw [mkM_lists, MG.out] at h; exact h)).mono ?_
  rintro e w8 ⟨rfl, rfl⟩
  go_wp2_with fail
  go_ret
  exact ⟨rfl, hB7⟩
end Go.Proofs.YtfkifcjjkaenhaaGreatDoor
