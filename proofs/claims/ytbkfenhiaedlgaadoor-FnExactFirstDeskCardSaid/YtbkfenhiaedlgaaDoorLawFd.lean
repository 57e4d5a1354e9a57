/- The walk of FnExactFirstDesk. -/
import Derived.Test.YtbkfenhiaedlgaaDoorFd
set_option linter.all false
namespace Go.Proofs.YtbkfenhiaedlgaaDoor
open Go.RowKit

theorem own_low {w w' : World} {B base : Nat} {e : TypeId} {size n : Nat} {v : Value} {xs : List Value} (h : w.ownsRow base e size v n xs) (hb : Below B w w') (hk : ∀ k, v.ownBlock = some k → k < B) : w'.ownsRow base e size v n xs := by
  refine ⟨h.1, ?_⟩
  rcases h.2 with hn | ⟨g, cap, cur, rfl, h1, h2, h3⟩
  · exact .inl hn
  · exact .inr ⟨g, cap, cur, rfl, h1, by rw [hb.block g (hk g rfl)]; exact h2, h3⟩
set_option maxRecDepth 100000 in
set_option maxHeartbeats 4000000 in
theorem lawFirstDesk (w : World) (hT : StrOk w) :
    Calls Tryd.prog 10 #[] w fun e w' => e = .returned (.bool true) ∧ Below w.heap.size w w' := by
  have hspec := fun w => specFd_any w
  have himpl := fun w' (hb : Below w.heap.size w w') => implFd_any w' (hT.below hb)
  unfold RetFd at hspec himpl
  have hLn : fdL.length ≤ 1000 := by simp [fdL]
  have hKn : fdK.length ≤ 1000 := by simp [fdK]
  obtain ⟨L, hL⟩ : ∃ L, fdL = L := ⟨_, rfl⟩
  obtain ⟨K, hK⟩ : ∃ K, fdK = K := ⟨_, rfl⟩
  rw [hL] at hspec himpl hLn
  rw [hK] at hspec himpl hKn
  have HS := Lib.hid hspec
  have HI := Lib.hid himpl
  clear hL hK hspec himpl
  go_enter Tryd.func10, Tryd.ntmps10
  go_wp2_with fail
  (with_reducible refine (HS.out _).mono ?_)
  rintro e w1 ⟨A0, c0, B0, d0, rfl, o0, p0, _, hb1⟩
  have hk0 := Lib.hid fun k (hk : (Value.slice A0 L.length c0).ownBlock = some k) => (o0.lt k hk).2
  have hj0 := Lib.hid fun k (hk : (Value.slice B0 K.length d0).ownBlock = some k) => (p0.lt k hk).2
  obtain ⟨w2, hw2⟩ : ∃ w2, w2 = w1.alloc (.cells #[.int .i64 3, .int .i64 2, .slice A0 L.length c0, .int .i64 1, .int .i64 1, .slice B0 K.length d0] 73) := ⟨_, rfl⟩
  have b0 : Dx w1.heap.size w2 3 2 A0 L.length c0 1 1 B0 K.length d0 := by rw [hw2]; exact Dx.start _ _ _ _ _ _ _ _ _ _ _ _
  have hs1 := b0.lt
  have hb2 : Below w1.heap.size w1 w2 := by rw [hw2]; exact (Below.refl _ _).alloc (Nat.le_refl _) _
  have o0 := own_keep o0 hb2
  have p0 := own_keep p0 hb2
  have hB := hb1.trans (hb2.mono hb1.size)
  have hs02 := hB.size
  clear hb1 hb2
  go_upto_region 2 with fail
  rw [← hw2]
  clear hw2
  go_wp2_with fail
  (with_reducible refine (HI.out _ hB).mono ?_)
  rintro e w3 ⟨Ag, cg, Bg, dg, rfl, og, pg, hd, hb3⟩
  have hkg := Lib.hid fun k (hk : (Value.slice Ag L.length cg).ownBlock = some k) => og.lt k hk
  have hjg := Lib.hid fun k (hk : (Value.slice Bg K.length dg).ownBlock = some k) => pg.lt k hk
  have HD := Lib.hid hd
  have o0 := own_keep o0 hb3
  have p0 := own_keep p0 hb3
  have b0 := b0.next hb3
  have hs23 := hb3.size
  have hB := hB.trans (hb3.mono hB.size)
  clear hb3 hd
  obtain ⟨w4, hw4⟩ : ∃ w4, w4 = w3.alloc (.cells #[.int .i64 3, .int .i64 2, .slice Ag L.length cg, .int .i64 1, .int .i64 1, .slice Bg K.length dg] 73) := ⟨_, rfl⟩
  have bg : Dx w3.heap.size w4 3 2 Ag L.length cg 1 1 Bg K.length dg := by rw [hw4]; exact Dx.start _ _ _ _ _ _ _ _ _ _ _ _
  have hb4 : Below w3.heap.size w3 w4 := by rw [hw4]; exact (Below.refl _ _).alloc (Nat.le_refl _) _
  have b0 := b0.next hb4
  have o0 := own_keep o0 hb4
  have p0 := own_keep p0 hb4
  have og := own_keep og hb4
  have pg := own_keep pg hb4
  have hB := hB.trans (hb4.mono hB.size)
  have hs34 := hb4.size
  go_upto_region 3 with fail
  rw [← hw4]
  clear hw4 hb4
  obtain ⟨_, x0, x1, x2, x3, x4, x5⟩ := id b0
  obtain ⟨_, y0, y1, y2, y3, y4, y5⟩ := id bg
  go_wp2_with fail
  (with_reducible refine (eqDesk_same 3 2 Ag A0 L.length cg c0 L 1 1 Bg B0 K.length dg d0 K w4 rfl (by omega) (own_cap og) (own_cap o0) (sqs_of_own og) (sqs_of_own o0) rfl (by omega) (own_cap pg) (own_cap p0) (sqs_of_own pg) (sqs_of_own p0)).mono ?_)
  rintro e w5 ⟨rfl, hb5⟩
  have b0 := b0.next hb5
  have bg := bg.next hb5
  have o0 := own_keep o0 hb5
  have p0 := own_keep p0 hb5
  have og := own_keep og hb5
  have pg := own_keep pg hb5
  have hB := hB.trans (hb5.mono hB.size)
  have hs45 := hb5.size
  clear hb5 x0 x1 x2 x3 x4 x5 y0 y1 y2 y3 y4 y5
  obtain ⟨_, y0, y1, y2, y3, y4, y5⟩ := id bg
  go_wp2_with fail
  (with_reducible refine (markDesk_any 3 2 Ag L.length cg w2.heap.size _ 1 1 Bg K.length dg _ 1 w5 (by omega) (by omega) (by omega) (by omega) (by omega) og pg HD.out).mono ?_)
  rintro e w6 ⟨rfl, og, pg, hbm, far⟩
  have b0 := far _ _ _ _ _ _ _ _ _ _ _ b0 (fun e => by have := hkg.out _ e; omega) (fun e => by have := hjg.out _ e; omega)
  have bg := far _ _ _ _ _ _ _ _ _ _ _ bg (fun e => by have := hkg.out _ e; omega) (fun e => by have := hjg.out _ e; omega)
  have o0 := own_low o0 hbm (fun k hk => by have := hk0.out k hk; omega)
  have p0 := own_low p0 hbm (fun k hk => by have := hj0.out k hk; omega)
  have hB := hB.trans (hbm.mono hs02)
  clear y0 y1 y2 y3 y4 y5 hbm far
  obtain ⟨_, y0, y1, y2, y3, y4, y5⟩ := id bg
  have h2 : ¬ (1 : Int) + 3 * (L.length : Int) + 3 * (K.length : Int) < 0 := by omega
  go_wp2_with fail
  (with_reducible refine (heldDesk_any 3 2 Ag L.length cg 1 1 Bg K.length dg 1 w6 (by omega) (by omega) (by omega) (by omega) (sqs_of_own og) (sqs_of_own pg)).mono ?_)
  rintro e w7 ⟨rfl, hb7⟩
  have b0 := b0.next hb7
  have bg := bg.next hb7
  have o0 := own_keep o0 hb7
  have p0 := own_keep p0 hb7
  have og := own_keep og hb7
  have pg := own_keep pg hb7
  have hB := hB.trans (hb7.mono hB.size)
  clear y0 y1 y2 y3 y4 y5 hb7
  go_wp2_with fail
  (with_reducible refine (HI.out _ hB).mono ?_)
  rintro e w8 ⟨Ah, ch, Bh, dh, rfl, oh, ph, _, hb8⟩
  have b0 := b0.next hb8
  have bg := bg.next hb8
  have o0 := own_keep o0 hb8
  have p0 := own_keep p0 hb8
  have og := own_keep og hb8
  have pg := own_keep pg hb8
  have hB := hB.trans (hb8.mono hB.size)
  clear hb8
  obtain ⟨w9, hw9⟩ : ∃ w9, w9 = w8.alloc (.cells #[.int .i64 3, .int .i64 2, .slice Ah L.length ch, .int .i64 1, .int .i64 1, .slice Bh K.length dh] 73) := ⟨_, rfl⟩
  have bh : Dx w8.heap.size w9 3 2 Ah L.length ch 1 1 Bh K.length dh := by rw [hw9]; exact Dx.start _ _ _ _ _ _ _ _ _ _ _ _
  have hb9 : Below w8.heap.size w8 w9 := by rw [hw9]; exact (Below.refl _ _).alloc (Nat.le_refl _) _
  have b0 := b0.next hb9
  have bg := bg.next hb9
  have o0 := own_keep o0 hb9
  have p0 := own_keep p0 hb9
  have og := own_keep og hb9
  have pg := own_keep pg hb9
  have oh := own_keep oh hb9
  have ph := own_keep ph hb9
  have hB := hB.trans (hb9.mono hB.size)
  go_upto_region 14 with fail
  rw [← hw9]
  clear hw9 hb9
  obtain ⟨_, x0, x1, x2, x3, x4, x5⟩ := id b0
  obtain ⟨_, z0, z1, z2, z3, z4, z5⟩ := id bh
  go_wp2_with fail
  (with_reducible refine (eqDesk_same 3 2 Ah A0 L.length ch c0 L 1 1 Bh B0 K.length dh d0 K w9 rfl (by omega) (own_cap oh) (own_cap o0) (sqs_of_own oh) (sqs_of_own o0) rfl (by omega) (own_cap ph) (own_cap p0) (sqs_of_own ph) (sqs_of_own p0)).mono ?_)
  rintro e w10 ⟨rfl, hb10⟩
  have bg := bg.next hb10
  have og := own_keep og hb10
  have pg := own_keep pg hb10
  have hB := hB.trans (hb10.mono hB.size)
  clear hb10 b0 bh o0 oh p0 ph x0 x1 x2 x3 x4 x5 z0 z1 z2 z3 z4 z5
  obtain ⟨_, y0, y1, y2, y3, y4, y5⟩ := id bg
  go_wp2_with fail
  (with_reducible refine (heldDesk_any 3 2 Ag L.length cg 1 1 Bg K.length dg 1 w10 (by omega) (by omega) (by omega) (by omega) (sqs_of_own og) (sqs_of_own pg)).mono ?_)
  rintro e w11 ⟨rfl, hb11⟩
  go_wp2_with fail
  go_ret
  exact ⟨rfl, hB.trans (hb11.mono hB.size)⟩
end Go.Proofs.YtbkfenhiaedlgaaDoor
