/- A clue with what a cut has: the program. -/
import Derived.Test.YtpbghalljfcaoaaPzE
import Derived.Test.YtpbghalljfcaoaaPzW
import Derived.Test.YtpbghalljfcaoaaEdgesI
set_option linter.all false
namespace Go.Proofs.Ytpbghalljfcaoaa
open Go.RowKit Go.Shelf

/-- The boxes of the clue, the cut and the result. -/
structure CB (N : Nat) (w V : World) (k a b W H : Int) (A : Option Addr) (n c : Nat) : Prop where
  below : Below N w V
  sz : N + 3 ≤ V.heap.size
  k0 : V.cell? ⟨N, 0, none⟩ = some (.int .i64 k)
  k1 : V.cell? ⟨N, 1, none⟩ = some (.int .i64 a)
  k2 : V.cell? ⟨N, 2, none⟩ = some (.int .i64 b)
  c0 : V.cell? ⟨N + 1, 0, none⟩ = some (.int .i64 W)
  c1 : V.cell? ⟨N + 1, 1, none⟩ = some (.int .i64 H)
  c2 : V.cell? ⟨N + 1, 2, none⟩ = some (.slice A n c)
  z0 : V.cell? ⟨N + 2, 0, none⟩ = some (.int .i64 0)
  z1 : V.cell? ⟨N + 2, 1, none⟩ = some (.int .i64 0)
  z2 : V.cell? ⟨N + 2, 2, none⟩ = some (.int .i64 0)
  f0 : ∀ o, V.frozen? ⟨N, o, none⟩ = false
  f2 : ∀ o, V.frozen? ⟨N + 2, o, none⟩ = false
theorem CB.next {N : Nat} {w V V' : World} {k a b W H : Int} {A : Option Addr} {n c : Nat} (h : CB N w V k a b W H A n c) (hb : Below V.heap.size V V') : CB N w V' k a b W H A n c := by
  have hs := h.sz
  have q : ∀ i o v, i < 3 → V.cell? ⟨N + i, o, none⟩ = some v → V'.cell? ⟨N + i, o, none⟩ = some v := fun i o v hi h => (hb.cell (p := ⟨N + i, o, none⟩) (by show N + i < _; omega)).trans h
  have r : ∀ i, i < 3 → (∀ o, V.frozen? ⟨N + i, o, none⟩ = false) → ∀ o, V'.frozen? ⟨N + i, o, none⟩ = false := fun i hi h o => (hb.frozen (p := ⟨N + i, o, none⟩) (by show N + i < _; omega)).trans (h o)
  exact ⟨h.below.trans (hb.mono (by omega)), Nat.le_trans hs hb.size, q 0 0 _ (by decide) h.k0, q 0 1 _ (by decide) h.k1, q 0 2 _ (by decide) h.k2, q 1 0 _ (by decide) h.c0, q 1 1 _ (by decide) h.c1, q 1 2 _ (by decide) h.c2, q 2 0 _ (by decide) h.z0, q 2 1 _ (by decide) h.z1, q 2 2 _ (by decide) h.z2, r 0 (by decide) h.f0, r 2 (by decide) h.f2⟩
theorem CB.start (w : World) (k a b W H : Int) (A : Option Addr) (n c : Nat) (t t' t'' : TypeId) :
    CB w.heap.size w (((w.alloc (.cells #[.int .i64 k, .int .i64 a, .int .i64 b] t)).alloc (.cells #[.int .i64 W, .int .i64 H, .slice A n c] t')).alloc (.cells #[.int .i64 0, .int .i64 0, .int .i64 0] t'')) k a b W H A n c := by
  constructor
  · exact (((Below.refl _ _).alloc (Nat.le_refl _) _).alloc (by simp) _).alloc (by simp; omega) _
  · simp
  all_goals (first | (simp [go_sem]; done) | (intro o; simp [go_sem, World.frozen?, World.alloc]))
theorem edges_at (W H : Int) (A : Option Addr) (n c : Nat) (L : List Sq) (i : Nat) (hi : i < 4) (w : World) (hl : L.length = n) (hc : n ≤ c) (hL : SqsAt w w.heap.size A L) (hwf : ∀ s ∈ L, wfS s) (hG : Good W H L) :
    Calls Try.prog 71 #[.agg #[.int .i64 W, .int .i64 H, .slice A n c]] w fun e w' => ∃ g c4, e = .returned (.tuple #[.slice (some ⟨g, 0, none⟩) 4 c4, .bool true]) ∧ w'.cell? ⟨g, i, none⟩ = some (.int .i64 (edgeN W H L i)) ∧ Below w.heap.size w w' := by
  refine (implEdges_any W H A n c L w hl hc hL hwf).mono ?_
  rintro e w' ⟨A4, c4, rfl, o4, hb4⟩
  rw [ifGood_yes hG, dc_true hG] at *
  have h4 : (edgesU W H L L.length).length = 4 := rfl
  have hg : (edgesU W H L L.length)[i]? = some (edgeN W H L i) := by
    unfold edgeN
    rw [Int.toNat_natCast, List.getElem?_eq_getElem (by rw [h4]; exact hi)]; rfl
  obtain ⟨g, rfl⟩ := own_form o4 (by rw [h4]; decide)
  obtain ⟨b, off, e, hb, hc⟩ := ints_of_own o4 i _ hg
  cases e
  rw [Nat.zero_add] at hc
  exact ⟨_, _, rfl, hc, hb4⟩
theorem cross_len (W H : Int) (A : Option Addr) (n c : Nat) (L : List Sq) (w : World) (hl : L.length = n) (hc : n ≤ c) (hL : SqsAt w w.heap.size A L) (hwf : ∀ s ∈ L, wfS s) (hG : Good W H L) :
    Calls Try.prog 72 #[.agg #[.int .i64 W, .int .i64 H, .slice A n c]] w fun e w' => ∃ A4 c4, e = .returned (.tuple #[.slice A4 (crossL L L.length).length c4, .bool true]) ∧ Below w.heap.size w w' := by
  refine (implCross_any W H A n c L w hl hc hL hwf).mono ?_
  intro e w' h
  rw [ifGood_yes hG, dc_true hG] at h
  obtain ⟨A4, c4, R, he, _, _, hb⟩ := h
  exact ⟨A4, c4, he, hb⟩
theorem long_det (W H : Int) (A : Option Addr) (n c : Nat) (L : List Sq) (w : World) (hl : L.length = n) (hc : n ≤ c) (hL : SqsAt w w.heap.size A L) (hwf : ∀ s ∈ L, wfS s) (hG : Good W H L) :
    Calls Try.prog 73 #[.agg #[.int .i64 W, .int .i64 H, .slice A n c]] w fun e w' => e = .returned (.tuple #[.int .i64 (lineN W H L), .bool true]) ∧ Below w.heap.size w w' := by
  refine (implLong_any W H A n c L w hl hc hL hwf).mono ?_
  rintro e w' ⟨m, ok, rfl, hs, hb⟩
  have h1 := lineN_eq hs hG
  have h2 : ok = true := by
    rcases hs with ⟨_, h, _⟩ | ⟨h, _⟩
    · exact h
    · exact absurd hG h
  rw [h1, h2]
  exact ⟨rfl, hb⟩
set_option maxRecDepth 100000 in
theorem hasIt_0 (W H : Int) (A : Option Addr) (n c : Nat) (L : List Sq) (a b : Int) (w : World) (hl : L.length = n) (hc : n ≤ c) (hL : SqsAt w w.heap.size A L) (hwf : ∀ s ∈ L, wfS s) (hG : Good W H L) :
    Calls Try.prog 44 #[.agg #[.int .i64 0, .int .i64 a, .int .i64 b], .agg #[.int .i64 W, .int .i64 H, .slice A n c]] w fun e w' => e = .returned (.agg #[.int .i64 0, .int .i64 L.length, .int .i64 b]) ∧ Below w.heap.size w w' := by
  subst hl
  go_enter Try.func44, Try.ntmps44
  go_wp2_with fail
  refine bodyPost_ret (v := .agg #[.int .i64 0, .int .i64 L.length, .int .i64 b]) (by simp [results, Try.results44, go_sem]) rfl ⟨rfl, ?_⟩
  repeat (first | exact Below.refl _ _ | refine Below.drew ?_ | refine Below.setCell ?_ (by first | exact Nat.le_refl _ | (simp; done) | (simp; omega)) _ | refine Below.alloc ?_ (by first | exact Nat.le_refl _ | (simp; done) | (simp; omega)) _)
set_option maxRecDepth 100000 in
set_option maxHeartbeats 4000000 in
theorem hasIt_1 (W H : Int) (A : Option Addr) (n c : Nat) (L : List Sq) (a b : Int) (w : World) (hl : L.length = n) (hc : n ≤ c) (hL : SqsAt w w.heap.size A L) (hwf : ∀ s ∈ L, wfS s) (hG : Good W H L) :
    Calls Try.prog 44 #[.agg #[.int .i64 1, .int .i64 a, .int .i64 b], .agg #[.int .i64 W, .int .i64 H, .slice A n c]] w fun e w' => e = .returned (.agg #[.int .i64 1, .int .i64 (a), .int .i64 ((sideN L a : Nat))]) ∧ Below w.heap.size w w' := by
  subst hl
  have K := CB.start w 1 a b W H A L.length c 25 47 25
  have hmf : ∀ (fn : Fn) (first cap : Array Value) (w : World), (Instr.makeFunc fn first cap).run Try.prog w = .ok (.func fn first cap) w := fun _ _ _ _ => rfl
  go_enter Try.func44, Try.ntmps44
  go_wp2_with fail
  obtain ⟨W3, hW3⟩ : ∃ W3, W3 = ((w.alloc (.cells #[.int .i64 1, .int .i64 a, .int .i64 b] 25)).alloc (.cells #[.int .i64 W, .int .i64 H, .slice A L.length c] 47)).alloc (.cells #[.int .i64 0, .int .i64 0, .int .i64 0] 25) := ⟨_, rfl⟩
  rw [← hW3] at K ⊢
  clear hW3
  have hs3 := K.sz
  refine (valuesQ_any A L.length c _).mono ?_
  rintro e w4 ⟨rfl, hw4⟩
  have hb4 : Below W3.heap.size W3 w4 := by rw [hw4]; exact (Below.refl _ _).alloc (Nat.le_refl _) _
  have hBs : w4.cell? ⟨W3.heap.size, 0, none⟩ = some (.slice A L.length c) := by rw [hw4]; simp [go_sem]
  clear hw4
  replace K := K.next hb4
  have hs4 := K.sz
  obtain ⟨_, _, k0, k1, k2, c0, c1, c2, z0, z1, z2, f0, f2⟩ := id K
  have f00 := f0 0
  have f01 := f0 1
  have f02 := f0 2
  have f20 := f2 0
  have f21 := f2 1
  have f22 := f2 2
  clear f0 f2
  go_wp2_with fail
  clear k0 k1 k2 c0 c1 c2 z0 z1 z2 f00 f01 f02 f20 f21 f22
  refine (countQ_any W3.heap.size w.heap.size L.length c A L a w4 rfl (by have := hG.2.2.1.2; omega) hBs ((hL.below K.below).mono K.below.size) K.k1).mono ?_
  rintro e w5 ⟨rfl, hb5⟩
  replace K := K.next hb5
  have hs5 := K.sz
  obtain ⟨_, _, k0, k1, k2, c0, c1, c2, z0, z1, z2, f0, f2⟩ := id K
  have f00 := f0 0
  have f01 := f0 1
  have f02 := f0 2
  have f20 := f2 0
  have f21 := f2 1
  have f22 := f2 2
  clear f0 f2
  go_wp2_with fail
  have hB := K.below
  refine bodyPost_ret (v := .agg #[.int .i64 1, .int .i64 (a), .int .i64 ((sideN L a : Nat))]) (by simp [results, Try.results44, go_sem, k0, k1, k2, z0, z1, z2]) rfl ⟨rfl, ?_⟩
  repeat (first | exact hB | refine Below.drew ?_ | refine Below.setCell ?_ (by first | exact Nat.le_refl _ | (simp; done) | (simp; omega)) _)
set_option maxRecDepth 100000 in
set_option maxHeartbeats 4000000 in
theorem hasIt_2 (W H : Int) (A : Option Addr) (n c : Nat) (L : List Sq) (a b : Int) (w : World) (hl : L.length = n) (hc : n ≤ c) (hL : SqsAt w w.heap.size A L) (hwf : ∀ s ∈ L, wfS s) (hG : Good W H L) :
    Calls Try.prog 44 #[.agg #[.int .i64 2, .int .i64 a, .int .i64 b], .agg #[.int .i64 W, .int .i64 H, .slice A n c]] w fun e w' => e = .returned (.agg #[.int .i64 2, .int .i64 (a), .int .i64 (cellN W H L a)]) ∧ Below w.heap.size w w' := by
  subst hl
  have K := CB.start w 2 a b W H A L.length c 25 47 25
  have hmf : ∀ (fn : Fn) (first cap : Array Value) (w : World), (Instr.makeFunc fn first cap).run Try.prog w = .ok (.func fn first cap) w := fun _ _ _ _ => rfl
  go_enter Try.func44, Try.ntmps44
  go_wp2_with fail
  obtain ⟨W3, hW3⟩ : ∃ W3, W3 = ((w.alloc (.cells #[.int .i64 2, .int .i64 a, .int .i64 b] 25)).alloc (.cells #[.int .i64 W, .int .i64 H, .slice A L.length c] 47)).alloc (.cells #[.int .i64 0, .int .i64 0, .int .i64 0] 25) := ⟨_, rfl⟩
  rw [← hW3] at K ⊢
  clear hW3
  have hs3 := K.sz
  refine (sideAt_any W H A L.length c L a W3 rfl hc ((hL.below K.below).mono K.below.size) hwf hG).mono ?_
  rintro e w4 ⟨rfl, hb4⟩
  replace K := K.next hb4
  have hs4 := K.sz
  obtain ⟨_, _, k0, k1, k2, c0, c1, c2, z0, z1, z2, f0, f2⟩ := id K
  have f00 := f0 0
  have f01 := f0 1
  have f02 := f0 2
  have f20 := f2 0
  have f21 := f2 1
  have f22 := f2 2
  clear f0 f2
  go_wp2_with fail
  have hB := K.below
  refine bodyPost_ret (v := .agg #[.int .i64 2, .int .i64 (a), .int .i64 (cellN W H L a)]) (by simp [results, Try.results44, go_sem, k0, k1, k2, z0, z1, z2]) rfl ⟨rfl, ?_⟩
  repeat (first | exact hB | refine Below.drew ?_ | refine Below.setCell ?_ (by first | exact Nat.le_refl _ | (simp; done) | (simp; omega)) _)
set_option maxRecDepth 100000 in
set_option maxHeartbeats 4000000 in
theorem hasIt_3 (W H : Int) (A : Option Addr) (n c : Nat) (L : List Sq) (i : Nat) (b : Int) (w : World) (hl : L.length = n) (hc : n ≤ c) (hL : SqsAt w w.heap.size A L) (hwf : ∀ s ∈ L, wfS s) (hG : Good W H L) (hi : i < 4) :
    Calls Try.prog 44 #[.agg #[.int .i64 3, .int .i64 (i : Int), .int .i64 b], .agg #[.int .i64 W, .int .i64 H, .slice A n c]] w fun e w' => e = .returned (.agg #[.int .i64 3, .int .i64 ((i : Int)), .int .i64 (edgeN W H L i)]) ∧ Below w.heap.size w w' := by
  subst hl
  have K := CB.start w 3 i b W H A L.length c 25 47 25
  have hmf : ∀ (fn : Fn) (first cap : Array Value) (w : World), (Instr.makeFunc fn first cap).run Try.prog w = .ok (.func fn first cap) w := fun _ _ _ _ => rfl
  go_enter Try.func44, Try.ntmps44
  go_wp2_with fail
  obtain ⟨W3, hW3⟩ : ∃ W3, W3 = ((w.alloc (.cells #[.int .i64 3, .int .i64 (i : Int), .int .i64 b] 25)).alloc (.cells #[.int .i64 W, .int .i64 H, .slice A L.length c] 47)).alloc (.cells #[.int .i64 0, .int .i64 0, .int .i64 0] 25) := ⟨_, rfl⟩
  rw [← hW3] at K ⊢
  clear hW3
  have hs3 := K.sz
  refine (edges_at W H A L.length c L i hi W3 rfl hc ((hL.below K.below).mono K.below.size) hwf hG).mono ?_
  rintro e w4 ⟨g4, c4, rfl, e4, hb4⟩
  have i0 : (0 : Int) ≤ (i : Int) := by omega
  have i1 : (i : Int) < (4 : Int) := by omega
  replace K := K.next hb4
  have hs4 := K.sz
  obtain ⟨_, _, k0, k1, k2, c0, c1, c2, z0, z1, z2, f0, f2⟩ := id K
  have f00 := f0 0
  have f01 := f0 1
  have f02 := f0 2
  have f20 := f2 0
  have f21 := f2 1
  have f22 := f2 2
  clear f0 f2
  go_wp2_with fail
  have hB := K.below
  refine bodyPost_ret (v := .agg #[.int .i64 3, .int .i64 ((i : Int)), .int .i64 (edgeN W H L i)]) (by simp [results, Try.results44, go_sem, k0, k1, k2, z0, z1, z2]) rfl ⟨rfl, ?_⟩
  repeat (first | exact hB | refine Below.drew ?_ | refine Below.setCell ?_ (by first | exact Nat.le_refl _ | (simp; done) | (simp; omega)) _)
set_option maxRecDepth 100000 in
set_option maxHeartbeats 4000000 in
theorem hasIt_4 (W H : Int) (A : Option Addr) (n c : Nat) (L : List Sq) (a b : Int) (w : World) (hl : L.length = n) (hc : n ≤ c) (hL : SqsAt w w.heap.size A L) (hwf : ∀ s ∈ L, wfS s) (hG : Good W H L) :
    Calls Try.prog 44 #[.agg #[.int .i64 4, .int .i64 a, .int .i64 b], .agg #[.int .i64 W, .int .i64 H, .slice A n c]] w fun e w' => e = .returned (.agg #[.int .i64 4, .int .i64 (((crossL L L.length).length : Nat)), .int .i64 (b)]) ∧ Below w.heap.size w w' := by
  subst hl
  have K := CB.start w 4 a b W H A L.length c 25 47 25
  have hmf : ∀ (fn : Fn) (first cap : Array Value) (w : World), (Instr.makeFunc fn first cap).run Try.prog w = .ok (.func fn first cap) w := fun _ _ _ _ => rfl
  go_enter Try.func44, Try.ntmps44
  go_wp2_with fail
  obtain ⟨W3, hW3⟩ : ∃ W3, W3 = ((w.alloc (.cells #[.int .i64 4, .int .i64 a, .int .i64 b] 25)).alloc (.cells #[.int .i64 W, .int .i64 H, .slice A L.length c] 47)).alloc (.cells #[.int .i64 0, .int .i64 0, .int .i64 0] 25) := ⟨_, rfl⟩
  rw [← hW3] at K ⊢
  clear hW3
  have hs3 := K.sz
  refine (cross_len W H A L.length c L W3 rfl hc ((hL.below K.below).mono K.below.size) hwf hG).mono ?_
  rintro e w4 ⟨A4, c4, rfl, hb4⟩
  have hcl := crossL_len L L.length
  have h30 := hG.2.2.1.2
  replace K := K.next hb4
  have hs4 := K.sz
  obtain ⟨_, _, k0, k1, k2, c0, c1, c2, z0, z1, z2, f0, f2⟩ := id K
  have f00 := f0 0
  have f01 := f0 1
  have f02 := f0 2
  have f20 := f2 0
  have f21 := f2 1
  have f22 := f2 2
  clear f0 f2
  go_wp2_with fail
  have hB := K.below
  refine bodyPost_ret (v := .agg #[.int .i64 4, .int .i64 (((crossL L L.length).length : Nat)), .int .i64 (b)]) (by simp [results, Try.results44, go_sem, k0, k1, k2, z0, z1, z2]) rfl ⟨rfl, ?_⟩
  repeat (first | exact hB | refine Below.drew ?_ | refine Below.setCell ?_ (by first | exact Nat.le_refl _ | (simp; done) | (simp; omega)) _)
set_option maxRecDepth 100000 in
set_option maxHeartbeats 4000000 in
theorem hasIt_5 (W H : Int) (A : Option Addr) (n c : Nat) (L : List Sq) (a b : Int) (w : World) (hl : L.length = n) (hc : n ≤ c) (hL : SqsAt w w.heap.size A L) (hwf : ∀ s ∈ L, wfS s) (hG : Good W H L) :
    Calls Try.prog 44 #[.agg #[.int .i64 5, .int .i64 a, .int .i64 b], .agg #[.int .i64 W, .int .i64 H, .slice A n c]] w fun e w' => e = .returned (.agg #[.int .i64 5, .int .i64 (lineN W H L), .int .i64 (b)]) ∧ Below w.heap.size w w' := by
  subst hl
  have K := CB.start w 5 a b W H A L.length c 25 47 25
  have hmf : ∀ (fn : Fn) (first cap : Array Value) (w : World), (Instr.makeFunc fn first cap).run Try.prog w = .ok (.func fn first cap) w := fun _ _ _ _ => rfl
  go_enter Try.func44, Try.ntmps44
  go_wp2_with fail
  obtain ⟨W3, hW3⟩ : ∃ W3, W3 = ((w.alloc (.cells #[.int .i64 5, .int .i64 a, .int .i64 b] 25)).alloc (.cells #[.int .i64 W, .int .i64 H, .slice A L.length c] 47)).alloc (.cells #[.int .i64 0, .int .i64 0, .int .i64 0] 25) := ⟨_, rfl⟩
  rw [← hW3] at K ⊢
  clear hW3
  have hs3 := K.sz
  refine (long_det W H A L.length c L W3 rfl hc ((hL.below K.below).mono K.below.size) hwf hG).mono ?_
  rintro e w4 ⟨rfl, hb4⟩
  replace K := K.next hb4
  have hs4 := K.sz
  obtain ⟨_, _, k0, k1, k2, c0, c1, c2, z0, z1, z2, f0, f2⟩ := id K
  have f00 := f0 0
  have f01 := f0 1
  have f02 := f0 2
  have f20 := f2 0
  have f21 := f2 1
  have f22 := f2 2
  clear f0 f2
  go_wp2_with fail
  have hB := K.below
  refine bodyPost_ret (v := .agg #[.int .i64 5, .int .i64 (lineN W H L), .int .i64 (b)]) (by simp [results, Try.results44, go_sem, k0, k1, k2, z0, z1, z2]) rfl ⟨rfl, ?_⟩
  repeat (first | exact hB | refine Below.drew ?_ | refine Below.setCell ?_ (by first | exact Nat.le_refl _ | (simp; done) | (simp; omega)) _)
/-- What may be asked of a cut: six kinds, four edges. -/
def AskOk (c : Sq) : Prop := (0 ≤ c.x ∧ c.x ≤ 5) ∧ (c.x = 3 → 0 ≤ c.y ∧ c.y ≤ 3)
theorem ClueOk.ask {N : Int} {c : Sq} (h : ClueOk N c) : AskOk c := by
  unfold ClueOk at h; unfold AskOk; omega
theorem asCut_any (s : Sq) (W H : Int) (A : Option Addr) (n c : Nat) (L : List Sq) (w : World) (hl : L.length = n) (hc : n ≤ c) (hL : SqsAt w w.heap.size A L) (hwf : ∀ s ∈ L, wfS s) (hG : Good W H L) (hs : AskOk s) :
    Calls Try.prog 44 #[.agg #[.int .i64 s.x, .int .i64 s.y, .int .i64 s.d], .agg #[.int .i64 W, .int .i64 H, .slice A n c]] w fun e w' => e = .returned (.agg #[.int .i64 (hasIt W H L s).x, .int .i64 (hasIt W H L s).y, .int .i64 (hasIt W H L s).d]) ∧ Below w.heap.size w w' := by
  obtain ⟨k, a, b⟩ := s
  obtain ⟨h0, h3⟩ := hs
  dsimp only at h0 h3 ⊢
  rcases (by omega : k = 0 ∨ k = 1 ∨ k = 2 ∨ k = 3 ∨ k = 4 ∨ k = 5) with rfl | rfl | rfl | rfl | rfl | rfl
  · exact hasIt_0 W H A n c L a b w hl hc hL hwf hG
  · exact hasIt_1 W H A n c L a b w hl hc hL hwf hG
  · exact hasIt_2 W H A n c L a b w hl hc hL hwf hG
  · obtain ⟨i, rfl⟩ : ∃ i : Nat, a = i := ⟨a.toNat, by have := h3 rfl; omega⟩
    exact hasIt_3 W H A n c L i b w hl hc hL hwf hG (by have := h3 rfl; omega)
  · exact hasIt_4 W H A n c L a b w hl hc hL hwf hG
  · exact hasIt_5 W H A n c L a b w hl hc hL hwf hG
end Go.Proofs.Ytpbghalljfcaoaa
