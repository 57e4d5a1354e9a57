/- The walk of FnExactSolutions. -/
import Derived.Test.YtpbghalljfcaoaaGreatPzT2
import Derived.Test.YtpbghalljfcaoaaGreatCuM2
set_option linter.all false
namespace Go.Proofs.YtpbghalljfcaoaaGreat
open Go.RowKit

theorem keepSz {B : Nat} {Wc wp : World} (hS : Below B Wc wp ∧ B ≤ wp.heap.size ∧ ∀ b o, b < B → wp.cell? ⟨b, o, none⟩ = Wc.cell? ⟨b, o, none⟩) : B ≤ wp.heap.size := hS.2.1
theorem CL.far {n0 : Nat} {W H : Int} {Cs : List CV} {sl : Value} {V V' : World} (h : CL n0 W H Cs sl V) {base n c : Nat} {A : Option Addr} {xs : List Value} (ho : V.ownsRow base 71 3 (.slice A n c) n xs) (hg : V.grownBy V' (Value.slice A n c).ownBlock) : CL n0 W H Cs sl V' :=
  ⟨own_far h.own hg (fun k hk => rows_ne h.own ho (by decide) k hk), fun x hx => own_far (h.sq x hx) hg (fun k hk => rows_ne (h.sq x hx) ho (by decide) k hk)⟩
theorem CL.low {n0 N : Nat} {W H : Int} {Cs : List CV} {sl : Value} {V0 V V' : World} (h0 : CL n0 W H Cs sl V0) (hN : V0.heap.size ≤ N) (h : CL n0 W H Cs sl V) (hb : Below N V V') : CL n0 W H Cs sl V' :=
  ⟨own_below h.own hb (fun k hk => Nat.lt_of_lt_of_le (h0.own.lt k hk).2 hN), fun x hx => own_below (h.sq x hx) hb (fun k hk => Nat.lt_of_lt_of_le ((h0.sq x hx).lt k hk).2 hN)⟩
theorem sol_36 {W H : Int} {L : List Sq} : ∀ M ∈ solV W H L, M.length ≤ 36 := by
  unfold solV
  by_cases hP : GoodP W H L
  · rw [dc_true hP]
    obtain ⟨a, rfl⟩ := Int.eq_ofNat_of_zero_le (show 0 ≤ W by have := hP.size; omega)
    obtain ⟨b, rfl⟩ := Int.eq_ofNat_of_zero_le (show 0 ≤ H by have := hP.size; omega)
    intro M hM
    have hM' : M ∈ allF a b := (List.mem_filter.1 hM).1
    have := (allF_good (okP_okL hP.1) M hM').2.2.1.2
    omega
  · rw [dc_false hP]; intro M hM; simp at hM
set_option maxRecDepth 100000 in
set_option maxHeartbeats 8000000 in
theorem lawSolutions (W H : Int) (A : Option Addr) (n c : Nat) (L : List Sq) (w : World) (hl : L.length = n) (hc : n ≤ c) (hn : n ≤ 1048576) (hL : SqsAt w w.heap.size A L) (hwf : ∀ s ∈ L, wfS s) :
    Calls Tryz.prog 3 #[.agg #[.int .i64 W, .int .i64 H, .slice A n c]] w fun e w' => e = .returned (.bool true) ∧ Below w.heap.size w w' := by
  subst hl
  have hspec := fun (Ax : Option Addr) (w' : World) (hx : SqsAt w' w'.heap.size Ax L) => specSol_any W H Ax L.length L.length L w' rfl (by omega) hx
  have himpl := fun (Ax : Option Addr) (w' : World) (hx : SqsAt w' w'.heap.size Ax L) => implSol_any W H Ax L.length L.length L w' rfl (by omega) hx
  have hF := sol_few (W := W) (H := H) (L := L)
  have h36 := sol_36 (W := W) (H := H) (L := L)
  unfold RetSM at hspec
  unfold RetSol at himpl
  obtain ⟨ok, hK⟩ : ∃ ok, dc (GoodP W H L) = ok := ⟨_, rfl⟩
  simp only [hK] at hspec himpl
  obtain ⟨R, hR⟩ : ∃ R, solV W H L = R := ⟨_, rfl⟩
  rw [hR] at hF h36
  simp only [hR] at hspec himpl
  have HS := Lib.hid hspec
  have HI := Lib.hid himpl
  have H36 := Lib.hid h36
  have h1 : (ok != ok) = false := by simp
  have ba := Bx.start w W H A L.length c 24
  have HB : Below w.heap.size w (w.alloc (.cells #[.int .i64 W, .int .i64 H, .slice A L.length c] 24)) := (Below.refl _ _).alloc (Nat.le_refl _) _
  clear hspec himpl h36 hK hR
  go_enter Tryz.func3, Tryz.ntmps3
  go_wp2_with fail
  obtain ⟨W1, hW1⟩ : ∃ W1, W1 = w.alloc (.cells #[.int .i64 W, .int .i64 H, .slice A L.length c] 24) := ⟨_, rfl⟩
  rw [← hW1] at ba HB ⊢
  clear hW1
  refine (szPuzzleL_ok W H A L.length c 1048576 W1 (by decide) (by omega)).mono ?_
  rintro e w1 ⟨rfl, hb⟩
  replace HB := HB.trans (hb.mono HB.size)
  replace ba := ba.next hb
  clear hb
  have h' : ¬ (1048576 : Int) - L.length < 0 := by omega
  obtain ⟨ul, u0, u1, u2⟩ := id ba
  go_wp2_with fail
  clear ul u0 u1 u2
  refine (toPuzzle_any W H A L.length c L w1 rfl hc hn ((hL.below HB).mono HB.size)).mono ?_
  rintro e w2 ⟨gs, rfl, hb, os⟩
  replace HB := HB.trans (hb.mono HB.size)
  replace ba := ba.next hb
  clear hb
  go_wp2_with fail
  (with_reducible refine (HS.out _ w2 (cls_of_own os)).mono ?_)
  rintro e w3 ⟨A0, c0, Ds, rfl, hmD, hD, hb⟩
  replace HB := HB.trans (hb.mono HB.size)
  replace ba := ba.next hb
  have HD0 := Lib.hid hD
  have HMD := Lib.hid hmD
  clear hb hD hmD os
  obtain ⟨ul, u0, u1, u2⟩ := id ba
  go_wp2_with fail
  clear ul u0 u1 u2
  have hal3 := ba.lt
  refine (toPuzzle_any W H A L.length c L w3 rfl hc hn ((hL.below HB).mono HB.size)).mono ?_
  rintro e w4 ⟨gx, rfl, hb, ox⟩
  replace HB := HB.trans (hb.mono HB.size)
  replace ba := ba.next hb
  have HD1 := Lib.hid (HD0.out.keep hb)
  have hs34 := hb.size
  have hgx := own_lt ox
  clear hb
  go_wp2_with fail
  obtain ⟨W5, hW⟩ : ∃ W5, W5 = w4.alloc (.cells #[.int .i64 W, .int .i64 H, .slice (some ⟨gx, 0, none⟩) L.length L.length] 31) := ⟨_, rfl⟩
  have hb : Below w4.heap.size w4 W5 := by rw [hW]; exact (Below.refl _ _).alloc (Nat.le_refl _) _
  have bx : Bx w4.heap.size W5 W H (some ⟨gx, 0, none⟩) L.length L.length := by rw [hW]; exact Bx.start _ _ _ _ _ _ _
  rw [← hW]
  clear hW
  replace HB := HB.trans (hb.mono HB.size)
  replace ba := ba.next hb
  replace ox := own_keep ox hb
  have HD2 := Lib.hid (HD1.out.keep hb)
  have hs45 := hb.size
  have hal := ba.lt
  clear hb
  (with_reducible refine (HI.out _ W5 (cls_of_own ox)).mono ?_)
  rintro e w6 ⟨Ag, cg, Cs, rfl, hmC, hC, hap, hb⟩
  have HC := Lib.hid hC
  have HMC := Lib.hid hmC
  have HAP := Lib.hid hap
  have hlc : Cs.length ≤ 65536 := by have := congrArg List.length hmC; simp only [List.length_map] at this; omega
  have HX : Hid (∀ x ∈ Cs, x.1.length ≤ 36) := Lib.hid (fun x hx => H36.out x.1 (by rw [← HMC.out]; exact List.mem_map_of_mem hx))
  have hs56 := hb.size
  replace HB := HB.trans (hb.mono HB.size)
  replace ba := ba.next hb
  replace bx := bx.next hb
  replace ox := own_keep ox hb
  have HD3 := Lib.hid (HD2.out.keep hb)
  clear hmC hC hap hb
  go_wp2_with fail
  (with_reducible refine (eqCutS_same W H _ _ Ag A0 cg c0 Cs Ds w6 (HMC.out.trans HMD.out.symm) hlc HX.out HC.out HD3.out).mono ?_)
  rintro e w7 ⟨rfl, hb⟩
  have HC7 := Lib.hid (HC.out.keep hb)
  have HD7 := Lib.hid (HD3.out.keep hb)
  have hs67 := hb.size
  replace HB := HB.trans (hb.mono HB.size)
  replace ba := ba.next hb
  replace bx := bx.next hb
  replace ox := own_keep ox hb
  clear hb
  obtain ⟨xl, x0, x1, x2⟩ := id bx
  obtain ⟨ul, u0, u1, u2⟩ := id ba
  have hX := cls_of_own ox
  have hT := (hL.below HB).mono HB.size
  go_wp2_with fail
  go_region_held3 (fun w' => Below w7.heap.size w7 w' ∧ w7.heap.size ≤ w'.heap.size ∧ ∀ b o, b < w7.heap.size → w'.cell? ⟨b, o, none⟩ = w7.cell? ⟨b, o, none⟩)
    (first | exact keepS (by assumption) (by assumption) | exact ⟨(Below.refl _ _).drew, Nat.le_refl _, fun _ _ _ => rfl⟩)
    (first
      | (go_at_call 11; refine (toPuzzle_any W H A L.length c L _ rfl hc hn (sqsS hT (by assumption))).mono ?_; rintro e wt ⟨gt, rfl, hbt, hot⟩)
      | (go_at_call 14; refine (eqPuzzle_same W H _ _ _ _ _ L _ rfl hn (Nat.le_refl _) (Nat.le_refl _) (sqsS hX (by assumption)) (cls_of_own (by assumption))).mono ?_; rintro e w8 ⟨rfl, hbe⟩))
  have hb := belowS (B := w7.heap.size) (wp := w8) (by assumption)
  have hs78 : w7.heap.size ≤ w8.heap.size := keepSz (B := w7.heap.size) (Wc := w7) (by assumption)
  clear xl x0 x1 x2 ul u0 u1 u2 hX hT
  have HC8 := Lib.hid (HC7.out.keep hb)
  have HD8 := Lib.hid (HD7.out.keep hb)
  replace HB := HB.trans (hb.mono HB.size)
  replace ba := ba.next hb
  replace bx := bx.next hb
  replace ox := own_keep ox hb
  clear hb
  obtain ⟨xl, x0, x1, x2⟩ := id bx
  go_wp2_with fail
  clear xl x0 x1 x2
  refine (markPuzzle_any W H _ _ _ _ _ 1 _ hn (by decide) (by decide) ox).mono ?_
  rintro e w9 ⟨rfl, hox, hgr⟩
  have hs89 := hgr.size
  have HC9 := Lib.hid (HC8.out.far ox hgr)
  have HD9 := Lib.hid (HD8.out.far ox hgr)
  replace HB := HB.grown hgr HB.size (fun k he => by simp [Value.ownBlock] at he; omega)
  replace ba := ba.far hgr (fun he => by simp [Value.ownBlock] at he; omega)
  clear hgr ox hox bx
  have h2 : ¬ (1 : Int) + 3 * L.length < 0 := by omega
  go_wp2_with fail
  (with_reducible refine (eqCutS_same W H _ _ Ag A0 cg c0 Cs Ds w9 (HMC.out.trans HMD.out.symm) hlc HX.out HC9.out HD9.out).mono ?_)
  rintro e w10 ⟨rfl, hb⟩
  have HC10 := Lib.hid (HC9.out.keep hb)
  have HD10 := Lib.hid (HD9.out.keep hb)
  have hs910 := hb.size
  replace HB := HB.trans (hb.mono HB.size)
  replace ba := ba.next hb
  clear hb
  go_wp2_with fail
  (with_reducible refine (markCutS_any W H W5.heap.size Ag cg Cs 1 w10 hlc HX.out (by decide) (by decide) HC10.out HAP.out).mono ?_)
  rintro e w11 ⟨rfl, hML, hb⟩
  have HML := Lib.hid hML
  have HD11 := Lib.hid (CL.low HD2.out (Nat.le_refl _) HD10.out hb)
  have hba : Bx w.heap.size w11 W H A L.length c := ⟨by have := hb.size; have := ba.lt; omega, (hb.cell (p := ⟨w.heap.size, 0, none⟩) hal).trans ba.c0, (hb.cell (p := ⟨w.heap.size, 1, none⟩) hal).trans ba.c1, (hb.cell (p := ⟨w.heap.size, 2, none⟩) hal).trans ba.c2⟩
  replace HB := HB.trans (hb.mono (by omega))
  clear ba
  obtain ⟨he0, he1⟩ := endO_bd 1 Cs HX.out
  obtain ⟨m, hm⟩ : ∃ m, endO 1 Cs = m := ⟨_, rfl⟩
  have hne : Cs ≠ [] → ∃ g, Ag = some ⟨g, 0, none⟩ := fun hn => by
    obtain ⟨g, rfl⟩ := own_form HC10.out.own (List.length_pos_iff.2 hn)
    exact ⟨g, rfl⟩
  have HNE := Lib.hid hne
  have HE : ∀ V, Below w11.heap.size w11 V → Calls Tryz.prog 17 #[.slice Ag Cs.length cg, .int .i64 1] V fun e w' => e = .returned (.int .i64 m) ∧ V = w' := fun V hb => by
    rw [← hm]
    refine heldCutS_any W H W5.heap.size Ag cg Cs 1 V hlc HX.out (by decide) (by decide) (fun hn => ?_)
    obtain ⟨g, e⟩ := HNE.out hn
    exact ⟨g, e, (HML.out g e).keep hb⟩
  rw [hm] at he0 he1 ⊢
  have HHE := Lib.hid HE
  have m0 : ¬ m < 0 := by omega
  have m1 : (m != m) = false := by simp
  clear hML hb hm hne HE
  go_wp2_with fail
  (with_reducible refine (HHE.out w11 (Below.refl _ _)).mono ?_)
  rintro e w12 ⟨rfl, rfl⟩
  obtain ⟨ul, u0, u1, u2⟩ := id hba
  go_wp2_with fail
  clear ul u0 u1 u2
  refine (toPuzzle_any W H A L.length c L w11 rfl hc hn ((hL.below HB).mono HB.size)).mono ?_
  rintro e w13 ⟨gt, rfl, hb, ot⟩
  have hb13 := hb
  replace HB := HB.trans (hb.mono HB.size)
  have HD13 := Lib.hid (HD11.out.keep hb)
  clear hb
  go_wp2_with fail
  (with_reducible refine (HI.out _ w13 (cls_of_own ot)).mono ?_)
  rintro e w14 ⟨Ah, ch, Es, rfl, hmE, hE, _, hb⟩
  have hle : Es.length ≤ 65536 := by have := congrArg List.length hmE; simp only [List.length_map] at this; omega
  have HXE : Hid (∀ x ∈ Es, x.1.length ≤ 36) := Lib.hid (fun x hx => H36.out x.1 (by rw [← hmE]; exact List.mem_map_of_mem hx))
  have HE14 := Lib.hid hE
  have HME := Lib.hid hmE
  have hb14 := hb13.trans (hb.mono hb13.size)
  replace HB := HB.trans (hb.mono HB.size)
  have HD14 := Lib.hid (HD13.out.keep hb)
  clear hE hmE ot hb hb13
  go_wp2_with fail
  (with_reducible refine (eqCutS_same W H _ _ Ah A0 ch c0 Es Ds w14 (HME.out.trans HMD.out.symm) hle HXE.out HE14.out HD14.out).mono ?_)
  rintro e w15 ⟨rfl, hb⟩
  have hb15 := hb14.trans (hb.mono hb14.size)
  replace HB := HB.trans (hb.mono HB.size)
  clear hb hb14
  go_wp2_with fail
  (with_reducible refine (HHE.out w15 hb15).mono ?_)
  rintro e w16 ⟨rfl, rfl⟩
  go_wp2_with fail
  go_ret
  exact ⟨rfl, HB⟩
theorem lawSolutions_over (W H : Int) (A : Option Addr) (n c : Nat) (w : World) (h : 1048576 < n) (hn : n ≤ 9223372036854775807) :
    Calls Tryz.prog 3 #[.agg #[.int .i64 W, .int .i64 H, .slice A n c]] w fun e w' => e = .returned (.bool true) ∧ Below w.heap.size w w' := by
  have HB : Below w.heap.size w (w.alloc (.cells #[.int .i64 W, .int .i64 H, .slice A n c] 24)) := (Below.refl _ _).alloc (Nat.le_refl _) _
  go_enter Tryz.func3, Tryz.ntmps3
  go_wp2_with fail
  refine (szPuzzleL_over W H A n c 1048576 _ (by decide) (by decide) (by omega) hn).mono ?_
  rintro e w1 ⟨rfl, hb⟩
  go_wp2_with fail
  go_ret
  exact ⟨rfl, HB.trans (hb.mono HB.size)⟩
end Go.Proofs.YtpbghalljfcaoaaGreat
