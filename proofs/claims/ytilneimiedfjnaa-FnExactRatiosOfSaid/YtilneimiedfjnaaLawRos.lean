/- The walk of FnExactRatiosOf. -/
import Derived.Test.YtilneimiedfjnaaRos
import Derived.Test.YtilneimiedfjnaaSSL
set_option linter.all false
namespace Go.Proofs.Ytilneimiedfjnaa
open Go.RowKit
set_option maxRecDepth 100000 in
set_option maxHeartbeats 2000000 in
theorem lawRatiosOf (s : Int) (w : World) : Calls Try.prog 11 #[.int .i64 s] w fun e w' => e = .returned (.bool true) ∧ Below w.heap.size w w' := by
  have hRt : (rosS s).length + tot (rosS s) ≤ 1048576 := by
    cases hk : inB s 1 8 with
    | true =>
      have h := inB_iff.1 hk
      obtain ⟨n, rfl⟩ : ∃ n : Nat, s = (n : Int) + 1 := ⟨(s - 1).toNat, by omega⟩
      rw [rosS_yes hk, rosL_len, rosL_tot]
      have : 2 ^ n ≤ 2 ^ 7 := Nat.pow_le_pow_right (by decide) (by omega)
      omega
    | false => rw [rosS_no hk]; decide
  obtain ⟨R, hR⟩ : ∃ R, rosS s = R := ⟨_, rfl⟩
  obtain ⟨ok, hK⟩ : ∃ ok, inB s 1 8 = ok := ⟨_, rfl⟩
  have c1 := fun w => specRos_any s w
  have c2 := fun w => implRos_any s w
  rw [hR] at hRt
  rw [hR, hK] at c1 c2
  have hRn : R.length ≤ 1048576 := by omega
  have hRm : ∀ l ∈ R, l.length ≤ 1048576 := fun l hl => by have := tot_mem hl; omega
  have hRT : tot R ≤ 1048576 := by omega
  have C1 := Lib.hid c1
  have C2 := Lib.hid c2
  clear c1 c2 hR hK hRt
  have h1 : (ok != ok) = false := by simp
  have h3 : ¬ (1 : Int) + (tot R : Int) < 0 := by omega
  go_enter Try.func11, Try.ntmps11
  go_wp2_with fail
  refine (C1.out _).mono ?_
  rintro e w1 ⟨A0, c0, R0, rfl, m0, o0, hb1⟩
  have hk0 := Lib.hid fun k (hk : Blk A0 R.length c0 R0 k) => (o0.lt hk).2
  have M0 := Lib.hid m0
  clear m0
  go_wp2_with fail
  refine (C2.out _).mono ?_
  rintro e w2 ⟨Ag, cg, Rg, rfl, mg, og, hb2⟩
  have hkg := Lib.hid fun k (hk : Blk Ag R.length cg Rg k) => (og.lt hk).1
  have MG := Lib.hid mg
  clear mg
  have o0 := o0.keep hb2
  go_wp2_with fail
  refine (eqIntSS_same Ag A0 R.length cg c0 R _ rfl hRn hRm og.cap o0.cap (by have h := og.rows; rw [MG.out] at h; exact h) (by have h := o0.rows; rw [M0.out] at h; exact h)).mono ?_
  rintro e w3 ⟨rfl, hb3⟩
  have o0 := o0.keep hb3
  have og := og.keep hb3
  have hs12 := hb2.size
  have hs23 := hb3.size
  go_wp2_with fail
  have CM := markIntSS_any Ag R.length cg _ Rg 1 _ hRn (by rw [MG.out]; exact hRT) (by decide) (by decide) og
  rw [MG.out] at CM
  refine CM.mono ?_
  rintro e w4 ⟨rfl, og4, hgr⟩
  clear CM
  have hbX : Below w1.heap.size w3 w4 := hgr.below (by omega) (fun k hk => hkg.out k hk)
  have o0 := o0.kept hgr (fun k hk he => by have := hk0.out k hk; have := hkg.out k he; omega)
  have hs34 := hgr.size
  have hB4 := hb1.trans ((hb2.trans ((hb3.mono hs12).trans hbX)).mono hb1.size)
  clear hgr og hbX hb2 hb3
  go_wp2_with fail
  refine (heldIntSS_any Ag R.length cg R 1 _ rfl hRn hRT (by decide) (by decide) (by have h := og4.rows; rw [mkM_lists, MG.out] at h; exact h)).mono ?_
  rintro e w5 ⟨rfl, rfl⟩
  go_wp2_with fail
  refine (C2.out _).mono ?_
  rintro e w6 ⟨Ah, ch, Rh, rfl, mh, oh, hb6⟩
  have MH := Lib.hid mh
  clear mh
  have o0 := o0.keep hb6
  have og := og4.keep hb6
  clear og4
  go_wp2_with fail
  refine (eqIntSS_same Ah A0 R.length ch c0 R _ rfl hRn hRm oh.cap o0.cap (by have h := oh.rows; rw [MH.out] at h; exact h) (by have h := o0.rows; rw [M0.out] at h; exact h)).mono ?_
  rintro e w7 ⟨rfl, hb7⟩
  have og := og.keep hb7
  have hB6 := hB4.trans (hb6.mono hB4.size)
  have hB7 := hB6.trans (hb7.mono hB6.size)
  clear o0 oh hb6 hb7 hB6 hB4
  go_wp2_with fail
  refine (heldIntSS_any Ag R.length cg R 1 _ rfl hRn hRT (by decide) (by decide) (by have h := og.rows; rw [mkM_lists, MG.out] at h; exact h)).mono ?_
  rintro e w8 ⟨rfl, rfl⟩
  go_wp2_with fail
  go_ret
  exact ⟨rfl, hB7⟩
end Go.Proofs.Ytilneimiedfjnaa
