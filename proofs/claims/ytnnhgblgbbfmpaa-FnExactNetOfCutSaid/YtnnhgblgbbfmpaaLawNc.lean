/- The walk of FnExactNetOfCut. -/
import Derived.Test.YtnnhgblgbbfmpaaLaws
import Derived.Test.YtnnhgblgbbfmpaaNcT
set_option linter.all false
namespace Go.Proofs.Ytnnhgblgbbfmpaa
open Go.RowKit

/-- A result (a net and its sides) in memory of its own, the net in a box behind it. -/
structure NRes (lo hi Bx : Nat) (w : World) (N : Int) (A : Option Addr) (c : Nat) (R : List Wi) (A2 : Option Addr) (c2 : Nat) (D : List Int) : Prop where
  box : Nx Bx w N A R.length c
  ws : w.ownsRow lo 86 2 (.slice A R.length c) R.length (flatW R)
  ss : w.ownsRow lo 3 1 (.slice A2 D.length c2) D.length (ints D)
  hw : ∀ k, (Value.slice A R.length c).ownBlock = some k → k < hi
  hs : ∀ k, (Value.slice A2 D.length c2).ownBlock = some k → k < hi
  ap : ∀ k, (Value.slice A R.length c).ownBlock = some k → (Value.slice A2 D.length c2).ownBlock ≠ some k
section
variable {lo hi Bx : Nat} {w w' : World} {N : Int} {A : Option Addr} {c : Nat} {R : List Wi} {A2 : Option Addr} {c2 : Nat} {D : List Int}
theorem NRes.keep (h : NRes lo hi Bx w N A c R A2 c2 D) (hb : Below w.heap.size w w') : NRes lo hi Bx w' N A c R A2 c2 D :=
  ⟨h.box.next hb, own_keep h.ws hb, own_keep h.ss hb, h.hw, h.hs, h.ap⟩
theorem NRes.far {row : Option Nat} (h : NRes lo hi Bx w N A c R A2 c2 D) (hg : w.grownBy w' row) (hr : ∀ k, row = some k → (hi ≤ k ∨ k < lo) ∧ k ≠ Bx) : NRes lo hi Bx w' N A c R A2 c2 D := by
  refine ⟨h.box.far hg (fun e => (hr _ e).2 rfl), own_far h.ws hg (fun k e hk => ?_), own_far h.ss hg (fun k e hk => ?_), h.hw, h.hs, h.ap⟩
  · have h1 := h.hw k e
    have h2 := (h.ws.lt k e).1
    have h3 := (hr k hk).1
    omega
  · have h1 := h.hs k e
    have h2 := (h.ss.lt k e).1
    have h3 := (hr k hk).1
    omega
theorem NRes.start {e : Ending} {ok : Bool} {w3 : World} (h : RetNS w N R D ok e w3) : ∃ A c A2 c2, e = .returned (.tuple #[.agg #[.int .i64 N, .slice A R.length c], .slice A2 D.length c2, .bool ok]) ∧
    NRes w.heap.size w3.heap.size w3.heap.size (w3.alloc (.cells #[.int .i64 N, .slice A R.length c] 51)) N A c R A2 c2 D ∧ Below w.heap.size w w3 := by
  obtain ⟨A, c, A2, c2, rfl, h1, h2, h3, h4⟩ := h
  exact ⟨A, c, A2, c2, rfl, ⟨Nx.start _ _ _ _ _ _, h1.alloc _, h2.alloc _, fun k hk => (h1.lt k hk).2, fun k hk => (h2.lt k hk).2, h3⟩, h4⟩
/-- Both lists marked. -/
theorem NRes.eqs (h : NRes lo hi Bx w N A c R A2 c2 D) : WisAt w w.heap.size A R ∧ IntsAt w w.heap.size A2 D ∧ R.length ≤ c ∧ D.length ≤ c2 := ⟨wis_of_own h.ws, ints_of_own h.ss, own_cap h.ws, own_cap h.ss⟩
end
theorem nc_len {α : Type} {W H : Int} {L : List Sq} {R : List α} (h : R.length = L.length) : (ifNc W H L R).length ≤ 30 := by
  by_cases hK : NetOk W H L
  · rw [nc_yes hK, h]; exact hK.1.2.2.1.2
  · rw [nc_no hK]; simp

set_option maxRecDepth 100000 in
set_option maxHeartbeats 4000000 in
theorem lawNetOfCut (W H : Int) (A : Option Addr) (n c : Nat) (L : List Sq) (w : World) (hl : L.length = n) (hc : n ≤ c) (hn : n ≤ 1048576) (hL : SqsAt w w.heap.size A L) (hwf : ∀ s ∈ L, wfS s) :
    Calls Try.prog 10 #[.agg #[.int .i64 W, .int .i64 H, .slice A n c]] w fun e w' => e = .returned (.bool true) ∧ Below w.heap.size w w' := by
  subst hl
  have hR3 : (ifNc W H L (netW L)).length ≤ 30 := nc_len (netW_len L)
  have hD3 : (ifNc W H L (sides L)).length ≤ 30 := nc_len (sides_len L)
  obtain ⟨R, hR⟩ : ∃ R, ifNc W H L (netW L) = R := ⟨_, rfl⟩
  obtain ⟨D, hD⟩ : ∃ D, ifNc W H L (sides L) = D := ⟨_, rfl⟩
  obtain ⟨N, hN⟩ : ∃ N, netN W H L = N := ⟨_, rfl⟩
  obtain ⟨ok, hK⟩ : ∃ ok, dc (NetOk W H L) = ok := ⟨_, rfl⟩
  rw [hR] at hR3
  rw [hD] at hD3
  have hRn : R.length ≤ 1048576 := by omega
  have hDn : D.length ≤ 1048576 := by omega
  have HR := Lib.hid hR
  have HD := Lib.hid hD
  have HN := Lib.hid hN
  have HK := Lib.hid hK
  clear hR hD hN hK
  have Z0 := Box.start (W := W) (H := H) (c := c) (t := 24) hL
  go_enter Try.func10, Try.ntmps10
  go_wp2_with fail
  refine (szCut_ok W H A L.length c _ hn).mono ?_
  rintro e w1 ⟨rfl, hb1⟩
  have h' : ¬ (1048576 : Int) - L.length < 0 := by omega
  have Z1 := Z0.next hb1
  obtain ⟨hB1, hz1, b0, b1, b2, hL1⟩ := id Z1
  clear Z0 hb1
  go_wp2_with fail
  refine (toCut_any W H A L.length c L _ rfl hc hn (hL1.mono hB1.size)).mono ?_
  rintro e w2 ⟨g2, rfl, hb2, ho2⟩
  go_wp2_with fail
  refine (specNetOf_any W H _ _ _ L _ rfl (Nat.le_refl _) (sqs_of_own ho2)).mono ?_
  rintro e w3 hret
  rw [HR.out, HD.out, HN.out, HK.out] at hret
  obtain ⟨A0, c0, D0, d0, rfl, n0, hb3⟩ := NRes.start hret
  obtain ⟨W3, hW3⟩ : ∃ W3, W3 = w3.alloc (.cells #[.int .i64 N, .slice A0 R.length c0] 51) := ⟨_, rfl⟩
  have hbX : Below w3.heap.size w3 W3 := by rw [hW3]; exact (Below.refl _ _).alloc (Nat.le_refl _) _
  have hzX : W3.heap.size = w3.heap.size + 1 := by rw [hW3]; simp
  have Z3a := (Z1.next hb2).next hb3
  have Z3 := Z3a.next hbX
  have hz23 := hb3.size
  rw [← hW3] at n0
  obtain ⟨hB3, hz3, _, _, _, hL3⟩ := id Z3
  obtain ⟨_, hz3a, q0, q1, q2, _⟩ := id Z3a
  clear b0 b1 b2 hL1 hb2 hb3 ho2 hB1 hz1 Z1 hret hbX
  go_wp2_with fail
  rw [← hW3]
  clear hW3
  refine (toCut_any W H A L.length c L _ rfl hc hn (hL3.mono hB3.size)).mono ?_
  rintro e w4 ⟨g4, rfl, hb4, ho4⟩
  have hg4 := own_lt ho4
  have hs34 := hb4.size
  have n0 := n0.keep hb4
  have Z4 := Z3.next hb4
  clear q0 q1 q2 hL3 hb4 hB3 Z3 Z3a
  go_wp2_with fail
  obtain ⟨W5, hW5⟩ : ∃ W5, W5 = w4.alloc (.cells #[.int .i64 W, .int .i64 H, .slice (some ⟨g4, 0, none⟩) L.length L.length] 28) := ⟨_, rfl⟩
  have X5 : Box w4.heap.size w4 W5 W H (some ⟨g4, 0, none⟩) L.length L := by rw [hW5]; exact Box.start (sqs_of_own ho4)
  have hb5 : Below w4.heap.size w4 W5 := by rw [hW5]; exact (Below.refl _ _).alloc (Nat.le_refl _) _
  have ho5 := own_keep ho4 hb5
  have n0 := n0.keep hb5
  have Z5 := Z4.next hb5
  rw [← hW5]
  clear hW5 Z4 ho4 hb5
  refine (implNet_any W H _ _ _ L _ rfl (Nat.le_refl _) (sqs_of_own ho5) hwf).mono ?_
  rintro e w6 hret
  rw [HR.out, HD.out, HN.out, HK.out] at hret
  obtain ⟨Ag, cg, Dg, dg, rfl, ng, hb6⟩ := NRes.start hret
  obtain ⟨W6, hW6⟩ : ∃ W6, W6 = w6.alloc (.cells #[.int .i64 N, .slice Ag R.length cg] 51) := ⟨_, rfl⟩
  have hbX : Below w6.heap.size w6 W6 := by rw [hW6]; exact (Below.refl _ _).alloc (Nat.le_refl _) _
  have hzY : W6.heap.size = w6.heap.size + 1 := by rw [hW6]; simp
  rw [← hW6] at ng
  have n0a := n0.keep hb6
  have n0 := n0a.keep hbX
  have ho6 := own_keep (own_keep ho5 hb6) hbX
  have Z6 := (Z5.next hb6).next hbX
  have X6 := (X5.next hb6).next hbX
  have hs45 := X5.lt
  have hs56 := hb6.size
  clear Z5 X5 ho5 hb6 hret hbX
  obtain ⟨hz0b, m00, m01⟩ := id n0a.box
  go_wp2_with fail
  rw [← hW6]
  clear hW6 m00 m01 n0a
  obtain ⟨wg, sg, cg1, dg1⟩ := ng.eqs
  obtain ⟨w0, s0, c01, d01⟩ := n0.eqs
  refine (eqNet_same N Ag A0 R.length cg c0 R _ rfl hRn cg1 c01 wg w0).mono ?_
  rintro e w7 ⟨rfl, hb7⟩
  clear wg sg w0 s0
  have n0 := n0.keep hb7
  have ng := ng.keep hb7
  have ho7 := own_keep ho6 hb7
  have hs67 := hb7.size
  have Z7 := Z6.next hb7
  have X7 := X6.next hb7
  clear Z6 X6 ho6 hb7
  have h1 : (ok != ok) = false := by simp
  go_wp2_with fail
  obtain ⟨wg, sg, _, _⟩ := ng.eqs
  obtain ⟨w0, s0, _, _⟩ := n0.eqs
  refine (eqIntS_same Dg D0 D.length dg d0 D _ rfl hDn dg1 d01 sg s0).mono ?_
  rintro e w8 ⟨rfl, hb8⟩
  clear wg sg w0 s0
  have n0 := n0.keep hb8
  have ng := ng.keep hb8
  have ho8 := own_keep ho7 hb8
  have hs78 := hb8.size
  have Z8 := Z7.next hb8
  have X8 := X7.next hb8
  clear Z7 X7 ho7 hb8
  obtain ⟨hB8, hz8, z0, z1, z2, hL8⟩ := id Z8
  obtain ⟨hB8', hx8, x0, x1, x2, _⟩ := id X8
  have hX8 := sqs_of_own ho8
  have hT8 := hL8.mono hB8.size
  go_wp2_with fail
  go_region_held3 (fun w' => Below w8.heap.size w8 w' ∧ w8.heap.size ≤ w'.heap.size ∧ ∀ b o, b < w8.heap.size → w'.cell? ⟨b, o, none⟩ = w8.cell? ⟨b, o, none⟩)
    (first | exact keepS (by assumption) (by assumption) | exact ⟨(Below.refl _ _).drew, Nat.le_refl _, fun _ _ _ => rfl⟩)
    (first
      | (go_at_call 17; refine (toCut_any W H A L.length c L _ rfl hc hn (sqsS hT8 (by assumption))).mono ?_; rintro e w9 ⟨g9, rfl, hb9, ho9⟩)
      | (go_at_call 19; refine (eqCut_same W H _ _ _ _ _ L _ rfl hn (Nat.le_refl _) (Nat.le_refl _) (sqsS hX8 (by assumption)) (sqs_of_own (by assumption))).mono ?_; rintro e w10 ⟨rfl, hb10⟩))
  have hb810 := belowS (B := w8.heap.size) (wp := w10) (by assumption)
  have hs810 := hb810.size
  have n0 := n0.keep hb810
  have ng := ng.keep hb810
  have ho10 := own_keep ho8 hb810
  have Z10 := Z8.next hb810
  have X10 := X8.next hb810
  obtain ⟨_, hx10, x0, x1, x2, _⟩ := id X10
  have hs310 : w3.heap.size ≤ w10.heap.size := by omega
  clear Z8 X8 X10 ho8 hX8 hT8 hL8 z0 z1 z2 hb810
  go_wp2_with fail
  refine (markCut_any W H _ _ _ _ _ 1 _ hn (by decide) (by decide) ho10).mono ?_
  rintro e w11 ⟨rfl, ho11, hgr⟩
  have hbX : Below w3.heap.size w10 w11 := below_of_grown hgr hs310 (fun k hk => by simp [Value.ownBlock] at hk; omega)
  have hs1011 := hgr.size
  have n0 := n0.far hgr (fun k hk => by simp [Value.ownBlock] at hk; omega)
  have ng := ng.far hgr (fun k hk => by simp [Value.ownBlock] at hk; omega)
  have Z11 := Z10.keep hbX (by omega) hs1011
  have h2 : ¬ (1 : Int) + 3 * L.length < 0 := by omega
  clear Z10 hgr hbX ho10 ho11 x0 x1 x2
  obtain ⟨_, m00, m01⟩ := id n0.box
  obtain ⟨_, mg0, mg1⟩ := id ng.box
  go_wp2_with fail
  obtain ⟨wg, sg, _, _⟩ := ng.eqs
  obtain ⟨w0, s0, _, _⟩ := n0.eqs
  refine (eqNet_same N Ag A0 R.length cg c0 R _ rfl hRn cg1 c01 wg w0).mono ?_
  rintro e w12 ⟨rfl, hb12⟩
  clear wg sg w0 s0 m00 m01 mg0 mg1
  have n0 := n0.keep hb12
  have ng := ng.keep hb12
  have Z12 := Z11.next hb12
  have hs12 := hb12.size
  clear Z11 hb12
  go_wp2_with fail
  obtain ⟨wg, sg, _, _⟩ := ng.eqs
  obtain ⟨w0, s0, _, _⟩ := n0.eqs
  refine (eqIntS_same Dg D0 D.length dg d0 D _ rfl hDn dg1 d01 sg s0).mono ?_
  rintro e w13 ⟨rfl, hb13⟩
  clear wg sg w0 s0
  have n0 := n0.keep hb13
  have ng := ng.keep hb13
  have Z13 := Z12.next hb13
  have hs13 := hb13.size
  clear Z12 hb13
  obtain ⟨_, mg0, mg1⟩ := id ng.box
  go_wp2_with fail
  have hlg : ∀ k, (Value.slice Ag R.length cg).ownBlock = some k → W5.heap.size ≤ k ∧ k < w6.heap.size := fun k hk => ⟨(ng.ws.lt k hk).1, ng.hw k hk⟩
  have hld : ∀ k, (Value.slice Dg D.length dg).ownBlock = some k → W5.heap.size ≤ k ∧ k < w6.heap.size := fun k hk => ⟨(ng.ss.lt k hk).1, ng.hs k hk⟩
  refine (markNet_any N Ag R.length cg _ _ 1 _ hRn (by decide) (by decide) ng.ws).mono ?_
  rintro e w14 ⟨rfl, wsg, hgr⟩
  have hbX : Below w3.heap.size w13 w14 := below_of_grown hgr (by omega) (fun k hk => by have := (hlg k hk).1; omega)
  have hs14 := hgr.size
  have n0 := n0.far hgr (fun k hk => by have := (hlg k hk).1; omega)
  have ssg := own_far ng.ss hgr (fun k e hk => ng.ap k hk e)
  have bg := ng.box.far hgr (fun e => by have := (hlg _ e).2; omega)
  have hap := ng.ap
  have Z14 := Z13.keep hbX (by omega) hs14
  clear Z13 hgr hbX ng mg0 mg1
  obtain ⟨_, mg0, mg1⟩ := id bg
  go_wp2_with fail
  refine (markIntS_any Dg D.length dg _ _ (1 + 2 * R.length) _ hDn (by omega) (by omega) ssg).mono ?_
  rintro e w15 ⟨rfl, ssg, hgr⟩
  have hbX : Below w3.heap.size w14 w15 := below_of_grown hgr (by omega) (fun k hk => by have := (hld k hk).1; omega)
  have hs15 := hgr.size
  have n0 := n0.far hgr (fun k hk => by have := (hld k hk).1; omega)
  have wsg := own_far wsg hgr (fun k e hk => hap k e hk)
  have bg := bg.far hgr (fun e => by have := (hld _ e).2; omega)
  have Z15 := Z14.keep hbX (by omega) hs15
  clear Z14 hgr hbX mg0 mg1
  obtain ⟨_, mg0, mg1⟩ := id bg
  have h3 : ¬ (1 : Int) + 2 * R.length < 0 := by omega
  have h4 : ¬ (1 : Int) + 2 * R.length + D.length < 0 := by omega
  have h5 : ((1 : Int) + 2 * R.length + D.length != 1 + 2 * R.length + D.length) = false := by simp
  go_wp2_with fail
  refine (heldNet_any N Ag R.length cg 1 _ hRn (by decide) (by decide) (wis_of_own wsg)).mono ?_
  rintro e w16 ⟨rfl, hb16⟩
  have n0 := n0.keep hb16
  have wsg := own_keep wsg hb16
  have ssg := own_keep ssg hb16
  have bg := bg.next hb16
  have Z16 := Z15.next hb16
  have hs16 := hb16.size
  clear Z15 hb16 mg0 mg1
  go_wp2_with fail
  refine (heldIntS_any Dg D.length dg (1 + 2 * R.length) _ hDn (by omega) (by omega) (ints_of_own ssg)).mono ?_
  rintro e w16' ⟨rfl, rfl⟩
  obtain ⟨hB16, hz16, z0, z1, z2, hL16⟩ := id Z16
  go_wp2_with fail
  refine (toCut_any W H A L.length c L _ rfl hc hn (hL16.mono hB16.size)).mono ?_
  rintro e w17 ⟨g17, rfl, hb17, ho17⟩
  have n0 := n0.keep hb17
  have wsg := own_keep wsg hb17
  have ssg := own_keep ssg hb17
  have bg := bg.next hb17
  have Z17 := Z16.next hb17
  clear Z16 hb17 z0 z1 z2 hL16
  go_wp2_with fail
  refine (implNet_any W H _ _ _ L _ rfl (Nat.le_refl _) (sqs_of_own ho17) hwf).mono ?_
  rintro e w18 hret
  rw [HR.out, HD.out, HN.out, HK.out] at hret
  obtain ⟨Ah, ch, Dh, dh, rfl, nh, hb18⟩ := NRes.start hret
  obtain ⟨W18, hW18⟩ : ∃ W18, W18 = w18.alloc (.cells #[.int .i64 N, .slice Ah R.length ch] 51) := ⟨_, rfl⟩
  have hbX : Below w18.heap.size w18 W18 := by rw [hW18]; exact (Below.refl _ _).alloc (Nat.le_refl _) _
  rw [← hW18] at nh
  have n0a := n0.keep hb18
  have n0 := n0a.keep hbX
  have wsg := own_keep (own_keep wsg hb18) hbX
  have ssg := own_keep (own_keep ssg hb18) hbX
  have bg := (bg.next hb18).next hbX
  have Z18 := (Z17.next hb18).next hbX
  clear Z17 hb18 hret hbX ho17
  obtain ⟨hz0b, m00, m01⟩ := id n0a.box
  go_wp2_with fail
  rw [← hW18]
  clear hW18 m00 m01 n0a
  obtain ⟨wh, sh, ch1, dh1⟩ := nh.eqs
  obtain ⟨w0, s0, _, _⟩ := n0.eqs
  refine (eqNet_same N Ah A0 R.length ch c0 R _ rfl hRn ch1 c01 wh w0).mono ?_
  rintro e w19 ⟨rfl, hb19⟩
  clear wh sh w0 s0
  have n0 := n0.keep hb19
  have nh := nh.keep hb19
  have wsg := own_keep wsg hb19
  have ssg := own_keep ssg hb19
  have bg := bg.next hb19
  have Z19 := Z18.next hb19
  clear Z18 hb19
  go_wp2_with fail
  obtain ⟨wh, sh, _, _⟩ := nh.eqs
  obtain ⟨w0, s0, _, _⟩ := n0.eqs
  refine (eqIntS_same Dh D0 D.length dh d0 D _ rfl hDn dh1 d01 sh s0).mono ?_
  rintro e w20 ⟨rfl, hb20⟩
  clear wh sh w0 s0 n0 nh
  have wsg := own_keep wsg hb20
  have ssg := own_keep ssg hb20
  have bg := bg.next hb20
  have Z20 := Z19.next hb20
  clear Z19 hb20
  obtain ⟨_, mg0, mg1⟩ := id bg
  go_wp2_with fail
  refine (heldNet_any N Ag R.length cg 1 _ hRn (by decide) (by decide) (wis_of_own wsg)).mono ?_
  rintro e w21 ⟨rfl, hb21⟩
  have ssg := own_keep ssg hb21
  have Z21 := Z20.next hb21
  clear Z20 hb21 mg0 mg1 bg wsg
  go_wp2_with fail
  refine (heldIntS_any Dg D.length dg (1 + 2 * R.length) _ hDn (by omega) (by omega) (ints_of_own ssg)).mono ?_
  rintro e w21' ⟨rfl, rfl⟩
  go_wp2_with fail
  go_ret
  exact ⟨rfl, Z21.below⟩

theorem lawNetOfCut_over (W H : Int) (A : Option Addr) (n c : Nat) (w : World) (h : 1048576 < n) (hn : n ≤ 9223372036854775807) :
    Calls Try.prog 10 #[.agg #[.int .i64 W, .int .i64 H, .slice A n c]] w fun e w' => e = .returned (.bool true) ∧ Below w.heap.size w w' := by
  have hb0 : ∀ o : Obj, Below w.heap.size w (w.alloc o) := fun o => (Below.refl _ _).alloc (Nat.le_refl _) o
  go_enter Try.func10, Try.ntmps10
  go_wp2_with fail
  refine (szCut_over W H A n c _ h hn).mono ?_
  rintro e w1 ⟨rfl, hb1⟩
  go_wp2_with fail
  go_ret
  exact ⟨rfl, (hb0 _).trans (hb1.mono (hb0 _).size)⟩
end Go.Proofs.Ytnnhgblgbbfmpaa
