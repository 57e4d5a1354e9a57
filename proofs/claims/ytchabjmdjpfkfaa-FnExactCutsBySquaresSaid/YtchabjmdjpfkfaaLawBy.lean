/- The walk of FnExactCutsBySquares. -/
import Derived.Test.YtchabjmdjpfkfaaCv
set_option linter.all false
namespace Go.Proofs.Ytchabjmdjpfkfaa
open Go.RowKit
set_option maxRecDepth 100000 in
set_option maxHeartbeats 2000000 in
theorem lawCutsBySquares (x y : Int) (w : World) : Calls Try.prog 4 #[.int .i64 x, .int .i64 y] w fun e w' => e = .returned (.bool true) ∧ Below w.heap.size w w' := by
  have hRn : (byF x y).length ≤ 1048576 := by
    cases hok : okF x y with
    | false => rw [byF_no hok]; decide
    | true =>
      unfold byF
      rw [if_pos hok, tally_len, List.length_replicate]
      have h := okF_iff.1 hok
      exact Nat.le_trans (Nat.mul_le_mul (show x.toNat ≤ 6 by omega) (show y.toNat ≤ 6 by omega)) (by decide)
  obtain ⟨R, hR⟩ : ∃ R, byF x y = R := ⟨_, rfl⟩
  obtain ⟨ok, hK⟩ : ∃ ok, okF x y = ok := ⟨_, rfl⟩
  have c1 := fun w => specBy_any x y w
  have c2 := fun w => implBy_any x y w
  rw [hR] at hRn
  rw [hR, hK] at c1 c2
  have C1 := Lib.hid c1
  have C2 := Lib.hid c2
  clear c1 c2 hR hK
  have h1 : (ok != ok) = false := by simp
  have h3 : ¬ (1 : Int) + R.length < 0 := by omega
  go_enter Try.func4, Try.ntmps4
  go_wp2_with fail
  refine (C1.out _).mono ?_
  rintro e w1 ⟨A0, c0, rfl, o0, hb1⟩
  have hk0 := Lib.hid fun k (hk : (Value.slice A0 R.length c0).ownBlock = some k) => (o0.lt k hk).2
  go_wp2_with fail
  refine (C2.out _).mono ?_
  rintro e w2 ⟨Ag, cg, rfl, og, hb2⟩
  have hkg := Lib.hid fun k (hk : (Value.slice Ag R.length cg).ownBlock = some k) => (og.lt k hk).1
  have o0 := own_keep o0 hb2
  go_wp2_with fail
  refine (eqIntS_same Ag A0 R.length cg c0 R _ rfl hRn (own_cap og) (own_cap o0) (ints_of_own og) (ints_of_own o0)).mono ?_
  rintro e w3 ⟨rfl, hb3⟩
  have o0 := own_keep o0 hb3
  have og := own_keep og hb3
  have hs12 := hb2.size
  have hs23 := hb3.size
  go_wp2_with fail
  refine (markIntS_any Ag R.length cg _ _ 1 _ hRn (by decide) (by decide) og).mono ?_
  rintro e w4 ⟨rfl, og4, hgr⟩
  have hbX : Below w1.heap.size w3 w4 := below_of_grown hgr (by omega) (fun k hk => hkg.out k hk)
  have o0 := own_far o0 hgr (fun k hk he => by have := hk0.out k hk; have := hkg.out k he; omega)
  have hs34 := hgr.size
  have hB4 := hb1.trans ((hb2.trans ((hb3.mono hs12).trans hbX)).mono hb1.size)
  clear hgr og hbX hb2 hb3
  go_wp2_with fail
  refine (heldIntS_any Ag R.length cg 1 _ hRn (by decide) (by decide) (ints_of_own og4)).mono ?_
  rintro e w5 ⟨rfl, rfl⟩
  go_wp2_with fail
  refine (C2.out _).mono ?_
  rintro e w6 ⟨Ah, ch, rfl, oh, hb6⟩
  have o0 := own_keep o0 hb6
  have og := own_keep og4 hb6
  clear og4
  go_wp2_with fail
  refine (eqIntS_same Ah A0 R.length ch c0 R _ rfl hRn (own_cap oh) (own_cap o0) (ints_of_own oh) (ints_of_own o0)).mono ?_
  rintro e w7 ⟨rfl, hb7⟩
  have og := own_keep og hb7
  have hB6 := hB4.trans (hb6.mono hB4.size)
  have hB7 := hB6.trans (hb7.mono hB6.size)
  clear o0 oh hb6 hb7 hB6 hB4
  go_wp2_with fail
  refine (heldIntS_any Ag R.length cg 1 _ hRn (by decide) (by decide) (ints_of_own og)).mono ?_
  rintro e w8 ⟨rfl, rfl⟩
  go_wp2_with fail
  go_ret
  exact ⟨rfl, hB7⟩
end Go.Proofs.Ytchabjmdjpfkfaa
