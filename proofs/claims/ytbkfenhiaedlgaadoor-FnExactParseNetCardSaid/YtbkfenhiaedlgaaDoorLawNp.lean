/- The walk of FnExactParseNet. -/
import Derived.Test.YtbkfenhiaedlgaaDoorNpS
import Derived.Test.YtbkfenhiaedlgaaDoorGen
import Derived.Test.YtbkfenhiaedlgaaDoorNetB
set_option linter.all false
namespace Go.Proofs.YtbkfenhiaedlgaaDoor
open Go.RowKit

set_option maxRecDepth 100000 in
set_option maxHeartbeats 2000000 in
theorem lawParseNet (s : ByteArray) (w : World) (hs : s.size ≤ maxLen) (hT : StrOk w) :
    Calls Tryd.prog 7 #[.string s] w fun e w' => e = .returned (.bool true) ∧ Below w.heap.size w w' := by
  by_cases h : s.size ≤ 1048576
  case neg =>
    have h0 : 1048576 < (s.size : Int) := by omega
    have h1 : (s.size : Int) ≤ 9223372036854775807 := by unfold maxLen at hs; omega
    go_enter Tryd.func7, Tryd.ntmps7
    go_wp2_with fail
    go_ret
    exact ⟨rfl, Below.refl _ _⟩
  have h0 : (s.size : Int) ≤ 1048576 := by omega
  obtain ⟨l, rfl⟩ : ∃ l, bas l = s := ⟨s.data.toList, data_bas s⟩
  rw [bas_size] at h
  have hspec := fun w => (specNp_any l h w).mono fun _ _ hr => hr.v
  have himpl := fun w' (hb : Below w.heap.size w w') => (implNp_any l h w' (hT.below hb)).mono fun _ _ hr => hr.v
  unfold RetNv at hspec himpl
  have hRn30 := npV_len l
  obtain ⟨X, hX⟩ : ∃ X, (npV l).1 = X := ⟨_, rfl⟩
  obtain ⟨R, hR⟩ : ∃ R, (npV l).2.1 = R := ⟨_, rfl⟩
  obtain ⟨ok, hK⟩ : ∃ ok, (npV l).2.2 = ok := ⟨_, rfl⟩
  rw [hR] at hRn30
  have hRn : R.length ≤ 1048576 := by omega
  rw [hX, hR, hK] at hspec himpl
  obtain ⟨SL, hSL⟩ : ∃ SL, bas l = SL := ⟨_, rfl⟩
  rw [hSL] at hspec himpl h0 ⊢
  clear hSL hRn30
  have HS := Lib.hid hspec
  have HI := Lib.hid himpl
  clear hR hX hK hspec himpl
  go_enter Tryd.func7, Tryd.ntmps7
  go_wp2_with fail
  refine (HS.out _).mono ?_
  rintro e w1 ⟨A0, c0, rfl, o0, hb1⟩
  have hk0 := Lib.hid fun k (hk : (Value.slice A0 R.length c0).ownBlock = some k) => (o0.lt k hk).2
  go_wp2_with fail
  obtain ⟨w2, hw2⟩ : ∃ w2, w2 = w1.alloc (.cells #[.int .i64 X, .slice A0 R.length c0] 51) := ⟨_, rfl⟩
  have b0 : Nx w1.heap.size w2 X A0 R.length c0 := by rw [hw2]; exact Nx.start _ _ _ _ _ _
  have hs1 := b0.lt
  have hb2 : Below w1.heap.size w1 w2 := by rw [hw2]; exact (Below.refl _ _).alloc (Nat.le_refl _) _
  have o0 := own_keep o0 hb2
  have hB := hb1.trans (hb2.mono hb1.size)
  have hs02 := hB.size
  rw [← hw2]
  clear hw2 hb1 hb2
  refine (HI.out _ hB).mono ?_
  rintro e w3 ⟨Ag, cg, rfl, og, hb3⟩
  have hkg := Lib.hid fun k (hk : (Value.slice Ag R.length cg).ownBlock = some k) => og.lt k hk
  have o0 := own_keep o0 hb3
  have b0 := b0.next hb3
  have hs23 := hb3.size
  have hB := hB.trans (hb3.mono hB.size)
  clear hb3
  have hs12 := b0.lt
  have h1 : (ok != ok) = false := by simp
  obtain ⟨p0, p1, p2⟩ := id b0
  go_wp2_with fail
  obtain ⟨w4, hw4⟩ : ∃ w4, w4 = w3.alloc (.cells #[.int .i64 X, .slice Ag R.length cg] 51) := ⟨_, rfl⟩
  have bg : Nx w3.heap.size w4 X Ag R.length cg := by rw [hw4]; exact Nx.start _ _ _ _ _ _
  have hb4 : Below w3.heap.size w3 w4 := by rw [hw4]; exact (Below.refl _ _).alloc (Nat.le_refl _) _
  have b0 := b0.next hb4
  have o0 := own_keep o0 hb4
  have og := own_keep og hb4
  have hB := hB.trans (hb4.mono hB.size)
  rw [← hw4]
  clear hw4 hb4 p0 p1 p2
  refine (eqNet_same X Ag A0 R.length cg c0 R _ rfl hRn (own_cap og) (own_cap o0) (wis_of_own og) (wis_of_own o0)).mono ?_
  rintro e w5 ⟨rfl, hb5⟩
  have b0 := b0.next hb5
  have bg := bg.next hb5
  have o0 := own_keep o0 hb5
  have og := own_keep og hb5
  have hB := hB.trans (hb5.mono hB.size)
  clear hb5
  obtain ⟨p0, p1, p2⟩ := id b0
  obtain ⟨q0, q1, q2⟩ := id bg
  go_wp2_with fail
  refine (markNet_any X Ag R.length cg _ _ 1 _ hRn (by decide) (by decide) og).mono ?_
  rintro e w6 ⟨rfl, og6, hgr⟩
  have b0 := b0.far hgr (fun he => by have := hkg.out _ he; omega)
  have bg := bg.far hgr (fun he => by have := hkg.out _ he; omega)
  have o0 := own_far o0 hgr (fun k hk he => by have := hk0.out k hk; have := hkg.out k he; omega)
  have hB := hB.grown hgr hB.size (fun k hk => by have := hkg.out k hk; have := hB.size; omega)
  clear p0 p1 p2 q0 q1 q2 hgr og
  obtain ⟨p0, p1, p2⟩ := id b0
  obtain ⟨q0, q1, q2⟩ := id bg
  have h2 : ¬ (1 : Int) + 2 * R.length < 0 := by omega
  go_wp2_with fail
  refine (heldNet_any X Ag R.length cg 1 _ hRn (by decide) (by decide) (wis_of_own og6)).mono ?_
  rintro e w7 ⟨rfl, hb7⟩
  have b0 := b0.next hb7
  have bg := bg.next hb7
  have o0 := own_keep o0 hb7
  have og := own_keep og6 hb7
  have hB := hB.trans (hb7.mono hB.size)
  clear p0 p1 p2 q0 q1 q2 hb7 og6
  go_wp2_with fail
  refine (HI.out _ hB).mono ?_
  rintro e w8 ⟨Ah, ch, rfl, oh, hb8⟩
  have b0 := b0.next hb8
  have bg := bg.next hb8
  have o0 := own_keep o0 hb8
  have og := own_keep og hb8
  have hB := hB.trans (hb8.mono hB.size)
  clear hb8
  obtain ⟨p0, p1, p2⟩ := id b0
  go_wp2_with fail
  obtain ⟨w9, hw9⟩ : ∃ w9, w9 = w8.alloc (.cells #[.int .i64 X, .slice Ah R.length ch] 51) := ⟨_, rfl⟩
  have bh : Nx w8.heap.size w9 X Ah R.length ch := by rw [hw9]; exact Nx.start _ _ _ _ _ _
  have hb9 : Below w8.heap.size w8 w9 := by rw [hw9]; exact (Below.refl _ _).alloc (Nat.le_refl _) _
  have b0 := b0.next hb9
  have bg := bg.next hb9
  have o0 := own_keep o0 hb9
  have og := own_keep og hb9
  have oh := own_keep oh hb9
  have hB := hB.trans (hb9.mono hB.size)
  rw [← hw9]
  clear hw9 hb9 p0 p1 p2
  refine (eqNet_same X Ah A0 R.length ch c0 R _ rfl hRn (own_cap oh) (own_cap o0) (wis_of_own oh) (wis_of_own o0)).mono ?_
  rintro e w10 ⟨rfl, hb10⟩
  have bg := bg.next hb10
  have og := own_keep og hb10
  have hB := hB.trans (hb10.mono hB.size)
  clear hb10 b0 bh o0 oh
  obtain ⟨q0, q1, q2⟩ := id bg
  go_wp2_with fail
  refine (heldNet_any X Ag R.length cg 1 _ hRn (by decide) (by decide) (wis_of_own og)).mono ?_
  rintro e w11 ⟨rfl, hb11⟩
  go_wp2_with fail
  go_ret
  exact ⟨rfl, hB.trans (hb11.mono hB.size)⟩
end Go.Proofs.YtbkfenhiaedlgaaDoor
