/- ReplaceSquare of the model. -/
import Derived.Test.YtilneimiedfjnaaRepG
import Derived.Test.YtilneimiedfjnaaTwo
set_option linter.all false
namespace Go.Proofs.Ytilneimiedfjnaa
open Go.RowKit

/-- The squares that are out behind so many. -/
def rpJ (G D : List Sq) (k j : Nat) : List Sq := if j ≤ k then G.take j else G.take k ++ (D ++ (G.drop (k + 1)).take (j - (k + 1)))
theorem rpJ_zero (G D : List Sq) (k : Nat) : rpJ G D k 0 = [] := by simp [rpJ]
theorem rpJ_one {G D : List Sq} {k j : Nat} {q : Sq} (h : G[j]? = some q) (hj : j ≠ k) : rpJ G D k (j + 1) = rpJ G D k j ++ [q] := by
  unfold rpJ
  by_cases h1 : j + 1 ≤ k
  · rw [if_pos h1, if_pos (by omega), List.take_add_one, h]; rfl
  · have h2 : ¬ j ≤ k := by omega
    rw [if_neg h1, if_neg h2, show j + 1 - (k + 1) = (j - (k + 1)) + 1 by omega, List.take_add_one, List.getElem?_drop, show k + 1 + (j - (k + 1)) = j by omega, h]
    simp
theorem rpJ_all {G D : List Sq} {k : Nat} : rpJ G D k (k + 1) = rpJ G D k k ++ D := by
  unfold rpJ
  rw [if_neg (by omega), if_pos (Nat.le_refl _)]
  simp
theorem rpJ_end {G D : List Sq} {k : Nat} (hk : k < G.length) : rpJ G D k G.length = G.take k ++ (D ++ G.drop (k + 1)) := by
  unfold rpJ
  rw [if_neg (by omega), List.take_of_length_le (l := G.drop (k + 1)) (by simp)]
theorem rpJ_len (G D : List Sq) (k j : Nat) : (rpJ G D k j).length ≤ G.length + D.length + G.length := by
  unfold rpJ; split <;> simp <;> omega

set_option maxRecDepth 100000 in
set_option maxHeartbeats 16000000 in
theorem specReplace_any (W H : Int) (A : Option Addr) (n c : Nat) (L : List Sq) (k0 : Int) (V G : Int) (A' : Option Addr) (n' c' : Nat) (M : List Sq) (w : World) (hl : L.length = n) (hl' : M.length = n') (hc : n ≤ c) (hc' : n' ≤ c') (hL : SqsAt w w.heap.size A L) (hM : SqsAt w w.heap.size A' M) :
    Calls Try.prog 25 #[.agg #[.int .i64 W, .int .i64 H, .slice A n c], .int .i64 k0, .agg #[.int .i64 V, .int .i64 G, .slice A' n' c']] w (RetT w (repT W H L k0 V G M)) := by
  subst hl
  subst hl'
  have K0 := BB.start w W H A L.length c V G A' M.length c'
  obtain ⟨W1, hW1⟩ : ∃ W1, W1 = (((w.alloc (.cells #[.int .i64 W, .int .i64 H, .slice A L.length c] 29)).alloc (.cells #[.int .i64 V, .int .i64 G, .slice A' M.length c'] 29)).alloc (.cells #[.int .i64 0, .int .i64 0, .slice none 0 0] 29)) := ⟨_, rfl⟩
  rw [← hW1] at K0
  obtain ⟨i0, hi, hz0, hz1, hz2⟩ := info_parts infoSq
  by_cases hG : Good W H L ∧ Good V G M
  · have hn0 := hG.1.2.2.1.2
    have hn1 := hG.1.2.2.1.1
    by_cases hk0 : 0 ≤ k0 ∧ k0 < L.length
    · obtain ⟨k, rfl⟩ : ∃ k : Nat, k0 = k := ⟨k0.toNat, by omega⟩
      have hk : k < L.length := by omega
      by_cases hv : V = G
      · obtain ⟨s, hs⟩ : ∃ s, L[k]? = some s := ⟨_, List.getElem?_eq_getElem hk⟩
        rw [repT_yes hG.1 hG.2 hs hv]
        have d4 : (V != G) = false := by simpa using hv
        have HV := Lib.hid hv
        clear hv hk0
        have hG' := hG.1
        have hK := hG.2
        obtain ⟨b, off, rfl, hb, q0, q1, q2⟩ := hL k s hs
        have hsd : 1 ≤ s.d ∧ s.d ≤ 500 := by have h := hG'.2.2.2.1 k s hs; exact ⟨h.1.1, h.2.1⟩
        have HSS := Lib.hid hs
        clear hs
        have ⟨_, a0, a1, a2⟩ := K0.a
        have ⟨_, b0, b1, b2⟩ := K0.b
        have ⟨_, r0, r1, r2⟩ := K0.r
        have t0 := K0.fz (w.heap.size + 2) 0 (by omega) (by omega)
        have t1 := K0.fz (w.heap.size + 2) 1 (by omega) (by omega)
        have t2 := K0.fz (w.heap.size + 2) 2 (by omega) (by omega)
        have s0 := K0.size
        go_enter Try.func25, Try.ntmps25
        go_wp2_with fail
        rw [← hW1]
        refine (callB_yes (joTwo_any W H _ _ c L V G A' _ c' M _ rfl rfl hc hc' ((hL.below K0.below).mono K0.below.size) ((hM.below K0.below).mono K0.below.size)) hG).mono ?_
        rintro e w1 ⟨rfl, hb1⟩
        have K1 := K0.next hb1
        clear a0 a1 a2 b0 b1 b2 r0 r1 r2 t0 t1 t2
        clear K0 hW1 hb1 s0
        have ⟨_, a0, a1, a2⟩ := K1.a
        have ⟨_, b0, b1, b2⟩ := K1.b
        have ⟨_, r0, r1, r2⟩ := K1.r
        have t0 := K1.fz (w.heap.size + 2) 0 (by omega) (by omega)
        have t1 := K1.fz (w.heap.size + 2) 1 (by omega) (by omega)
        have t2 := K1.fz (w.heap.size + 2) 2 (by omega) (by omega)
        have s0 := K1.size
        have d2 := Lib.hid (inB_iff.2 (show (0 : Int) ≤ (k : Int) ∧ (k : Int) ≤ (L.length : Int) - 1 by omega))
        go_wp2_with fail
        refine (l1In_any _ _ _ w1).mono ?_
        rw [d2.out]
        rintro e w1' ⟨rfl, rfl⟩
        have q0' : w1.cell? ⟨b, off + k * 3, none⟩ = some (.int .i64 s.x) := (K1.below.cell (p := ⟨b, _, none⟩) hb).trans q0
        have q1' : w1.cell? ⟨b, off + k * 3 + 1, none⟩ = some (.int .i64 s.y) := (K1.below.cell (p := ⟨b, _, none⟩) hb).trans q1
        have q2' : w1.cell? ⟨b, off + k * 3 + 2, none⟩ = some (.int .i64 s.d) := (K1.below.cell (p := ⟨b, _, none⟩) hb).trans q2
        have kz : (0 : Int) ≤ (k : Int) := by omega
        have kl : (k : Int) < (L.length : Int) := by omega
        go_wp2_with fail
        obtain ⟨w2, hw2⟩ : ∃ w2, w2 = w1.alloc (.cells #[.int .i64 s.x, .int .i64 s.y, .int .i64 s.d] 65) := ⟨_, rfl⟩
        have hb12 : Below w1.heap.size w1 w2 := by rw [hw2]; exact (Below.refl _ _).alloc (Nat.le_refl _) _
        have x2 : w2.cell? ⟨w1.heap.size, 2, none⟩ = some (.int .i64 s.d) := by rw [hw2]; simp
        have hs12 : w1.heap.size < w2.heap.size := by rw [hw2]; simp
        have K2 := K1.next hb12
        rw [← hw2]
        clear a0 a1 a2 b0 b1 b2 r0 r1 r2 t0 t1 t2
        clear hw2 hb12 s0 K1 q0' q1' q2' q0 q1 q2
        refine (specGcd_i s.d V w2 hsd hK.1).mono ?_
        rintro e w3 ⟨rfl, hb3⟩
        have x2 := (hb3.cell (p := ⟨w1.heap.size, 2, none⟩) hs12).trans x2
        have hs13 := Nat.lt_of_lt_of_le hs12 hb3.size
        have K3 := K2.next hb3
        clear K2 hb3
        obtain ⟨⟨m1, m2⟩, ⟨m3, m4⟩, m5⟩ := gd_fit hsd hK.1
        obtain ⟨g, hg⟩ : ∃ g : Nat, gd s.d V = (g : Int) := ⟨_, rfl⟩
        have E1 : wrap64 ((s.d).tdiv (g : Int)) = s.d / (g : Int) := (IntWalk.i64_left _).symm.trans (quoW (by omega) hsd.2)
        have E2 : wrap64 ((V).tdiv (g : Int)) = V / (g : Int) := (IntWalk.i64_left _).symm.trans (quoW (by have := hK.1; omega) hK.1.2)
        rw [hg] at m1 m2 m3 m4 m5 ⊢
        have g0 : (g : Int) ≠ 0 := by omega
        have pb : 0 ≤ V := by have := hK.1; omega
        have ⟨_, a0, a1, a2⟩ := K3.a
        have ⟨_, b0, b1, b2⟩ := K3.b
        have ⟨_, r0, r1, r2⟩ := K3.r
        have t0 := K3.fz (w.heap.size + 2) 0 (by omega) (by omega)
        have t1 := K3.fz (w.heap.size + 2) 1 (by omega) (by omega)
        have t2 := K3.fz (w.heap.size + 2) 2 (by omega) (by omega)
        have s0 := K3.size
        go_wp2_with fail
        go_region
        go_wp2_with fail
        try simp only [E1, E2]
        have K3 := K3.next (Below.refl _ _).drew
        obtain ⟨w4, hw4⟩ : ∃ w4, w4 = w3.drew := ⟨_, rfl⟩
        rw [← hw4] at K3 ⊢
        clear a0 a1 a2 b0 b1 b2 r0 r1 r2 t0 t1 t2
        clear s0 hw4 x2 hs13 hs12
        have ⟨_, a0, a1, a2⟩ := K3.a
        have ⟨_, b0, b1, b2⟩ := K3.b
        have ⟨_, r0, r1, r2⟩ := K3.r
        have t0 := K3.fz (w.heap.size + 2) 0 (by omega) (by omega)
        have t1 := K3.fz (w.heap.size + 2) 1 (by omega) (by omega)
        have t2 := K3.fz (w.heap.size + 2) 2 (by omega) (by omega)
        have s0 := K3.size
        obtain ⟨p, hp⟩ : ∃ p, s.d / (g : Int) = p := ⟨_, rfl⟩
        obtain ⟨m, hm⟩ : ∃ m, V / (g : Int) = m := ⟨_, rfl⟩
        rw [hp] at m1 m2 ⊢
        rw [hm] at m3 m4 ⊢
        have sm1 : ∀ s ∈ L, (0 ≤ s.x ∧ s.x ≤ 500) ∧ (0 ≤ s.y ∧ s.y ≤ 500) ∧ (0 ≤ s.d ∧ s.d ≤ 500) := fun s hs => by have h1 := (good_fill hG').within s hs; have h2 := hG'.1; have h3 := hG'.2.1; unfold Within at h1; omega
        have sm2 : ∀ s ∈ M, (0 ≤ s.x ∧ s.x ≤ 500) ∧ (0 ≤ s.y ∧ s.y ≤ 500) ∧ (0 ≤ s.d ∧ s.d ≤ 500) := fun s hs => by have h1 := (good_fill hK).within s hs; have h2 := hK.1; have h3 := hK.2.1; unfold Within at h1; omega
        have hn2 := hK.2.2.1.2
        refine (joGrown_any W H _ L.length c L m 0 0 w4 rfl (by omega) ((hL.below K3.below).mono K3.below.size) sm1 m3 m4 (by omega) (by omega)).mono ?_
        rintro e w5 ⟨A5, c5, rfl, o5, hb5⟩
        rw [J.jL_len] at o5 ⊢
        have K5 := K3.next hb5
        have hs45 := hb5.size
        clear a0 a1 a2 b0 b1 b2 r0 r1 r2 t0 t1 t2
        clear s0 K3 hb5
        have q5 := sqs_of_own o5
        have h35 := K5.size
        go_wp2_with fail
        go_loopw [12, 58] (fun v i wr => ∃ j : Nat, j ≤ L.length ∧ i = .int .i64 j ∧ Below w5.heap.size w5 wr ∧ wr.ownsRow w5.heap.size 65 3 v (rpJ (J.jL m 0 0 L) (J.jL p (s.x * m) (s.y * m) M) k j).length (flat (rpJ (J.jL m 0 0 L) (J.jL p (s.x * m) (s.y * m) M) k j))) (fun _ i _ => L.length - (intOf i).toNat)
        case atStart => exact ⟨0, Nat.zero_le _, rfl, Below.refl _ _, by rw [rpJ_zero]; exact World.ownsRow_nil _ _ _ _⟩
        case round =>
          obtain ⟨j, hj, rfl, hbr, hown⟩ := hrel
          have Kr := K5.next hbr
          have hlen := rpJ_len (J.jL m 0 0 L) (J.jL p (s.x * m) (s.y * m) M) k j
          rw [J.jL_len, J.jL_len] at hlen
          obtain ⟨R, hR⟩ : ∃ R, rpJ (J.jL m 0 0 L) (J.jL p (s.x * m) (s.y * m) M) k j = R := ⟨_, rfl⟩
          rw [hR] at hown hlen
          have HR := Lib.hid hR
          obtain ⟨A4, c4, rfl⟩ := own_val hown
          have hsr := hbr.size
          have hk1 : R.length + 1 ≤ maxLen := by unfold maxLen; omega
          have hk2 : (R.length + 1) * 24 ≤ 140737488355328 := by omega
          have hk3 : R.length + M.length ≤ maxLen := by unfold maxLen; omega
          have hk4 : (R.length + M.length) * 24 ≤ 140737488355328 := by omega
          by_cases hlt : j < L.length
          · have jz : (0 : Int) ≤ (j : Int) := by omega
            have jl : (j : Int) < (L.length : Int) := by omega
            obtain ⟨t, ht⟩ : ∃ t, L[j]? = some t := ⟨_, List.getElem?_eq_getElem hlt⟩
            have hgt : (J.jL m 0 0 L)[j]? = some (J.jS m 0 0 t) := by simp [J.jL, ht]
            obtain ⟨gb, go, rfl, gl, y0, y1, y2⟩ := q5 j (J.jS m 0 0 t) hgt
            have y0' : wr.cell? ⟨gb, go + j * 3, none⟩ = some (.int .i64 (J.jS m 0 0 t).x) := (hbr.cell (p := ⟨gb, _, none⟩) gl).trans y0
            have y1' : wr.cell? ⟨gb, go + j * 3 + 1, none⟩ = some (.int .i64 (J.jS m 0 0 t).y) := (hbr.cell (p := ⟨gb, _, none⟩) gl).trans y1
            have y2' : wr.cell? ⟨gb, go + j * 3 + 2, none⟩ = some (.int .i64 (J.jS m 0 0 t).d) := (hbr.cell (p := ⟨gb, _, none⟩) gl).trans y2
            obtain ⟨tx, htx⟩ : ∃ x, (J.jS m 0 0 t).x = x := ⟨_, rfl⟩
            obtain ⟨ty, hty⟩ : ∃ x, (J.jS m 0 0 t).y = x := ⟨_, rfl⟩
            obtain ⟨td, htd⟩ : ∃ x, (J.jS m 0 0 t).d = x := ⟨_, rfl⟩
            rw [htx] at y0'
            rw [hty] at y1'
            rw [htd] at y2'
            have ⟨_, b0, b1, b2⟩ := Kr.b
            have hflat : flat R ++ [.int .i64 tx, .int .i64 ty, .int .i64 td] = flat (R ++ [J.jS m 0 0 t]) := by rw [flat_app, ← htx, ← hty, ← htd]; rfl
            by_cases hjk : j = k
            · have e3 : ((j : Int) == (k : Int)) = true := by simp; omega
              have hts : t = s := by rw [hjk, HSS.out] at ht; cases ht; rfl
              have ex : tx = s.x * m := by rw [← htx, hts]; simp [J.jS]
              have ey : ty = s.y * m := by rw [← hty, hts]; simp [J.jS]
              have hbx : 0 ≤ tx ∧ tx ≤ 250000 := by have e := prod_bd m3 m4 (sm1 s (List.mem_of_getElem? HSS.out)).1.1 (sm1 s (List.mem_of_getElem? HSS.out)).1.2; rw [Int.mul_comm, ← ex] at e; exact e
              have hby : 0 ≤ ty ∧ ty ≤ 250000 := by have e := prod_bd m3 m4 (sm1 s (List.mem_of_getElem? HSS.out)).2.1.1 (sm1 s (List.mem_of_getElem? HSS.out)).2.1.2; rw [Int.mul_comm, ← ey] at e; exact e
              have hE : rpJ (J.jL m 0 0 L) (J.jL p (s.x * m) (s.y * m) M) k (j + 1) = R ++ J.jL p tx ty M := by rw [ex, ey, ← HR.out, hjk]; exact rpJ_all
              have HE := Lib.hid hE
              have HJ := Lib.hid hjk
              clear hE hjk ht hgt y0 y1 y2 hflat ex ey hts hR htx hty htd q5 sm1 hL
              go_wp2_with fail
              refine (joGrown_any V G A' M.length c' M p tx ty _ rfl (by omega) ((hM.below (Kr.below.trans (((Below.refl wr.heap.size wr).alloc (Nat.le_refl _) _).mono Kr.below.size))).mono (by have := Kr.below.size; simp; omega)) sm2 m1 m2 (by omega) (by omega)).mono ?_
              rintro e w7 ⟨A7, c7, rfl, o7, hb7⟩
              rw [J.jL_len] at o7 ⊢
              have hb7' : Below wr.heap.size wr w7 := ((Below.refl wr.heap.size wr).alloc (Nat.le_refl _) _).trans (hb7.mono (by simp))
              have hown7 := own_keep hown hb7'
              have z7 := own_nil0 o7
              have q7 := sqs_of_own o7
              have hs7 := hb7'.size
              go_wp2_with (at_builtin; refine app_list rfl _ _ _ rfl w5.heap.size 65 i0 (.agg #[.int .i64 0, .int .i64 0, .int .i64 0]) 3 24 Try.underlying27 hi hz0 hz1 hz2 rfl (by decide) (.slice A4 R.length c4) R.length _ rfl hown7 A7 M.length c7 (flat (J.jL p tx ty M)) rfl (by rw [flat_len, J.jL_len]) (src_sqs (J.jL_len p tx ty M) q7 z7) (flat_one _) hk3 hk4 (by omega) ?_; intro v' w8 hown8 hgrow hv8)
              have hb8 : Below w5.heap.size w5 w8 := (hbr.trans (hb7'.mono hsr)).grown hgrow (by omega) (fun kk e => (hown7.lt kk e).1)
              go_roundw
              case rel => exact ⟨j + 1, by omega, by go_num, hb8, by rw [HE.out, List.length_append, J.jL_len, flat_app]; exact hown8⟩
              case measure => simp [intOf]; omega
            · have e3 : ((j : Int) == (k : Int)) = false := by simp; omega
              have HE := Lib.hid ((rpJ_one hgt hjk).trans (by rw [HR.out]) : rpJ (J.jL m 0 0 L) (J.jL p (s.x * m) (s.y * m) M) k (j + 1) = R ++ [J.jS m 0 0 t])
              have HF := Lib.hid hflat
              clear hjk ht hgt y0 y1 y2 hflat hR htx hty htd q5 sm1 sm2 hL
              go_wp2_with (at_builtin; refine app_list rfl _ _ _ rfl w5.heap.size 65 i0 (.agg #[.int .i64 0, .int .i64 0, .int .i64 0]) 3 24 Try.underlying27 hi hz0 hz1 hz2 rfl (by decide) (.slice A4 R.length c4) R.length _ rfl ((hown.alloc _).alloc _) (some ⟨wr.heap.size + 1, 0, none⟩) 1 1 [.int .i64 tx, .int .i64 ty, .int .i64 td] rfl rfl (.inr ⟨_, rfl, new3' _ _ _ _ _ _⟩) (one3 _ _ _) hk1 hk2 (by simp; omega) ?_; intro v' w8 hown8 hgrow hv8; rw [HF.out] at hown8)
              have hb8 : Below w5.heap.size w5 w8 := ((hbr.alloc hsr _).alloc (by simp; omega) _).grown hgrow (by simp; omega) (fun kk e => (hown.lt kk e).1)
              go_roundw
              case rel => exact ⟨j + 1, by omega, by go_num, hb8, by rw [HE.out, List.length_append]; exact hown8⟩
              case measure => simp [intOf]; omega
          · obtain rfl : j = L.length := by omega
            have hrp : R = rpL m p L k s M := by
              rw [← HR.out]
              have := rpJ_end (G := J.jL m 0 0 L) (D := J.jL p (s.x * m) (s.y * m) M) (k := k) (by rw [J.jL_len]; exact hk)
              rw [J.jL_len] at this
              exact this
            have wW : IntKind.i64.wrap (W * m) = W * m := by have e := prod_bd m3 m4 (x := W) (by have := hG'.1; omega) hG'.1.2; rw [Int.mul_comm] at e; exact IntWalk.i64_in _ (by omega)
            have wH : IntKind.i64.wrap (H * m) = H * m := by have e := prod_bd m3 m4 (x := H) (by have := hG'.2.1; omega) hG'.2.1.2; rw [Int.mul_comm] at e; exact IntWalk.i64_in _ (by omega)
            have CO := cuMake_any (W * m) (H * m) A4 R.length c4 R wr rfl (by omega) (sqs_of_own hown)
            have HRP := Lib.hid hrp
            have ⟨_, a0, a1, a2⟩ := Kr.a
            clear hrp hR q5 sm1 sm2 hL
            go_wp2_with fail
            refine CO.mono ?_
            rintro e w9 hret
            have hret : RetT wr (Mk (W * m) (H * m) R) e w9 := hret
            obtain ⟨Z, hZ⟩ : ∃ Z, Mk (W * m) (H * m) R = Z := ⟨_, rfl⟩
            rw [hZ] at hret
            have HZ := Lib.hid hZ
            clear hZ
            obtain ⟨A3, c3, rfl, o9, hb9⟩ := hret
            have K9 := Kr.next hb9
            have o9 := own_base (base' := w.heap.size + 3) o9 Kr.size
            clear a0 a1 a2
            have ⟨_, r0, r1, r2⟩ := K9.r
            have t0 := K9.fz (w.heap.size + 2) 0 (by omega) (by omega)
            have t1 := K9.fz (w.heap.size + 2) 1 (by omega) (by omega)
            have t2 := K9.fz (w.heap.size + 2) 2 (by omega) (by omega)
            go_wp2_with fail
            obtain ⟨e1, e2⟩ := K9.done (X := Z.1) (Y := Z.2.1) o9 (Nat.le_refl _)
            rw [hg, hp, hm, ← HRP.out, HZ.out]
            refine bodyPost_ret (v := .tuple #[.agg #[.int .i64 Z.1, .int .i64 Z.2.1, .slice A3 Z.2.2.1.length c3], .bool Z.2.2.2]) (by simp [results, Try.results25, go_sem, r0, r1, r2]) rfl ?_
            exact ⟨A3, c3, rfl, e2, e1⟩
      · rw [repT_no fun h => hv h.2.2.2]
        have d4 : (V != G) = true := by simpa using hv
        have ⟨_, a0, a1, a2⟩ := K0.a
        have ⟨_, b0, b1, b2⟩ := K0.b
        have ⟨_, r0, r1, r2⟩ := K0.r
        have t0 := K0.fz (w.heap.size + 2) 0 (by omega) (by omega)
        have t1 := K0.fz (w.heap.size + 2) 1 (by omega) (by omega)
        have t2 := K0.fz (w.heap.size + 2) 2 (by omega) (by omega)
        have s0 := K0.size
        go_enter Try.func25, Try.ntmps25
        go_wp2_with fail
        rw [← hW1]
        refine (callB_yes (joTwo_any W H A _ c L V G A' _ c' M _ rfl rfl hc hc' ((hL.below K0.below).mono K0.below.size) ((hM.below K0.below).mono K0.below.size)) hG).mono ?_
        rintro e w1 ⟨rfl, hb1⟩
        have K1 := K0.next hb1
        clear a0 a1 a2 b0 b1 b2 r0 r1 r2 t0 t1 t2
        clear K0 hW1 hb1 s0
        have ⟨_, a0, a1, a2⟩ := K1.a
        have ⟨_, b0, b1, b2⟩ := K1.b
        have ⟨_, r0, r1, r2⟩ := K1.r
        have t0 := K1.fz (w.heap.size + 2) 0 (by omega) (by omega)
        have t1 := K1.fz (w.heap.size + 2) 1 (by omega) (by omega)
        have t2 := K1.fz (w.heap.size + 2) 2 (by omega) (by omega)
        have s0 := K1.size
        have d2 := Lib.hid (inB_iff.2 (show (0 : Int) ≤ (k : Int) ∧ (k : Int) ≤ (L.length : Int) - 1 by omega))
        go_wp2_with fail
        refine (l1In_any _ _ _ w1).mono ?_
        rw [d2.out]
        rintro e w1' ⟨rfl, rfl⟩
        go_wp2_with fail
        have hB := ((K1.below.setCell (p := ⟨w.heap.size + 2, 0, none⟩) (by simp) (.int .i64 0)).setCell (p := ⟨w.heap.size + 2, 1, none⟩) (by simp) (.int .i64 0)).setCell (p := ⟨w.heap.size + 2, 2, none⟩) (by simp) (.slice none 0 0)
        refine bodyPost_ret (v := .tuple #[.agg #[.int .i64 0, .int .i64 0, .slice none 0 0], .bool false]) (by simp [results, Try.results25, go_sem, r0, r1, r2]) rfl ?_
        exact RetT.no hB
    · rw [repT_no fun h => hk0 h.2.2.1]
      have ⟨_, a0, a1, a2⟩ := K0.a
      have ⟨_, b0, b1, b2⟩ := K0.b
      have ⟨_, r0, r1, r2⟩ := K0.r
      have t0 := K0.fz (w.heap.size + 2) 0 (by omega) (by omega)
      have t1 := K0.fz (w.heap.size + 2) 1 (by omega) (by omega)
      have t2 := K0.fz (w.heap.size + 2) 2 (by omega) (by omega)
      have s0 := K0.size
      go_enter Try.func25, Try.ntmps25
      go_wp2_with fail
      rw [← hW1]
      refine (callB_yes (joTwo_any W H A _ c L V G A' _ c' M _ rfl rfl hc hc' ((hL.below K0.below).mono K0.below.size) ((hM.below K0.below).mono K0.below.size)) hG).mono ?_
      rintro e w1 ⟨rfl, hb1⟩
      have K1 := K0.next hb1
      clear a0 a1 a2 b0 b1 b2 r0 r1 r2 t0 t1 t2
      clear K0 hW1 hb1 s0
      have ⟨_, a0, a1, a2⟩ := K1.a
      have ⟨_, b0, b1, b2⟩ := K1.b
      have ⟨_, r0, r1, r2⟩ := K1.r
      have t0 := K1.fz (w.heap.size + 2) 0 (by omega) (by omega)
      have t1 := K1.fz (w.heap.size + 2) 1 (by omega) (by omega)
      have t2 := K1.fz (w.heap.size + 2) 2 (by omega) (by omega)
      have s0 := K1.size
      have d2 : Hid (inB k0 0 ((L.length : Int) - 1) = false) := by show inB _ _ _ = false; simp [inB]; omega
      go_wp2_with fail
      refine (l1In_any _ _ _ w1).mono ?_
      rw [d2.out]
      rintro e w1' ⟨rfl, rfl⟩
      go_wp2_with fail
      have hB := ((K1.below.setCell (p := ⟨w.heap.size + 2, 0, none⟩) (by simp) (.int .i64 0)).setCell (p := ⟨w.heap.size + 2, 1, none⟩) (by simp) (.int .i64 0)).setCell (p := ⟨w.heap.size + 2, 2, none⟩) (by simp) (.slice none 0 0)
      refine bodyPost_ret (v := .tuple #[.agg #[.int .i64 0, .int .i64 0, .slice none 0 0], .bool false]) (by simp [results, Try.results25, go_sem, r0, r1, r2]) rfl ?_
      exact RetT.no hB
  · rw [repT_no fun h => hG (And.intro h.1 h.2.1)]
    have ⟨_, a0, a1, a2⟩ := K0.a
    have ⟨_, b0, b1, b2⟩ := K0.b
    have ⟨_, r0, r1, r2⟩ := K0.r
    have t0 := K0.fz (w.heap.size + 2) 0 (by omega) (by omega)
    have t1 := K0.fz (w.heap.size + 2) 1 (by omega) (by omega)
    have t2 := K0.fz (w.heap.size + 2) 2 (by omega) (by omega)
    have s0 := K0.size
    go_enter Try.func25, Try.ntmps25
    go_wp2_with fail
    rw [← hW1]
    refine (callB_no (joTwo_any W H A _ c L V G A' _ c' M _ rfl rfl hc hc' ((hL.below K0.below).mono K0.below.size) ((hM.below K0.below).mono K0.below.size)) hG).mono ?_
    rintro e w1 ⟨rfl, hb1⟩
    have K1 := K0.next hb1
    clear a0 a1 a2 b0 b1 b2 r0 r1 r2 t0 t1 t2
    clear K0 hW1 hb1 s0
    have ⟨_, a0, a1, a2⟩ := K1.a
    have ⟨_, b0, b1, b2⟩ := K1.b
    have ⟨_, r0, r1, r2⟩ := K1.r
    have t0 := K1.fz (w.heap.size + 2) 0 (by omega) (by omega)
    have t1 := K1.fz (w.heap.size + 2) 1 (by omega) (by omega)
    have t2 := K1.fz (w.heap.size + 2) 2 (by omega) (by omega)
    have s0 := K1.size
    go_wp2_with fail
    have hB := ((K1.below.setCell (p := ⟨w.heap.size + 2, 0, none⟩) (by simp) (.int .i64 0)).setCell (p := ⟨w.heap.size + 2, 1, none⟩) (by simp) (.int .i64 0)).setCell (p := ⟨w.heap.size + 2, 2, none⟩) (by simp) (.slice none 0 0)
    refine bodyPost_ret (v := .tuple #[.agg #[.int .i64 0, .int .i64 0, .slice none 0 0], .bool false]) (by simp [results, Try.results25, go_sem, r0, r1, r2]) rfl ?_
    exact RetT.no hB
end Go.Proofs.Ytilneimiedfjnaa
