/- StripsThrough. -/
import Derived.Test.YtebnekicbcdnaaaSt
set_option linter.all false
namespace Go.Proofs.Ytebnekicbcdnaaa
open Go.RowKit

/-- How many strips there are of a length, as a whole number. -/
noncomputable def cntN (h n : Nat) : Nat := nS (fun _ => false) h (n : Int) (zeroC h)
def okThr (h H t : Int) : Bool := (inB h 1 4 && inB H 1 30) && inB t 1 (H - 1)
noncomputable def thrS (h H t : Int) : Int := if okThr h H t then wrap64 ((cntN h.toNat t.toNat : Int) * (cntN h.toNat (H.toNat - t.toNat) : Int)) else 0
set_option maxRecDepth 100000 in
set_option maxHeartbeats 4000000 in
theorem implThr_any (h H t : Int) (w : World) : Calls Try.prog 49 #[.int .i64 h, .int .i64 H, .int .i64 t] w fun e w' => e = .returned (.tuple #[.int .i64 (thrS h H t), .bool (okThr h H t)]) ∧ Below w.heap.size w w' := by
  cases hok : (inB h 1 4 && inB H 1 30) with
  | false =>
    have C := newF_bad h H hok w
    have e1 : okThr h H t = false := by unfold okThr; rw [hok]; rfl
    have e : thrS h H t = 0 := by unfold thrS; rw [e1]; rfl
    rw [e, e1]
    clear hok e e1
    go_enter Try.func49, Try.ntmps49
    go_wp2_with fail
    refine C.mono ?_
    rintro e w' ⟨rfl, rfl⟩
    go_wp2_with fail
    go_ret2
    exact ⟨rfl, Below.refl _ _⟩
  | true =>
    obtain ⟨a, b, rfl, rfl, ha1, ha4, hb1, hb30⟩ := inB_ex hok
    obtain ⟨N, hN⟩ : ∃ N, w.heap.size = N := ⟨_, rfl⟩
    have C := newF_no a b ha1 ha4 hb1 hb30 (fun _ => false) w
    rw [hN] at C ⊢
    have HC := Lib.hid C
    have HN := Lib.hid hN
    cases ht : inB t 1 ((b : Int) - 1) with
    | false =>
      have e1 : okThr (a : Int) (b : Int) t = false := by unfold okThr; rw [hok, ht]; rfl
      have e : thrS (a : Int) (b : Int) t = 0 := by unfold thrS; rw [e1]; rfl
      rw [e, e1]
      have hor : t < 1 ∨ (1 ≤ t ∧ (b : Int) ≤ t) := by
        simp [inB] at ht; omega
      clear hok e e1 C ht hN
      rcases hor with ht | ⟨ht1, ht2⟩
      · go_enter Try.func49, Try.ntmps49
        go_wp2_with fail
        refine HC.out.mono ?_
        rintro e w1 ⟨b', m, E, rfl, Q1, hb1', _, _, _⟩
        have HB := Lib.hid hb1'
        clear Q1 hb1'
        go_wp2_with fail
        go_ret2
        exact ⟨rfl, HB.out⟩
      · go_enter Try.func49, Try.ntmps49
        go_wp2_with fail
        refine HC.out.mono ?_
        rintro e w1 ⟨b', m, E, rfl, Q1, hb1', _, _, _⟩
        have HB := Lib.hid hb1'
        clear Q1 hb1'
        go_wp2_with fail
        go_ret2
        exact ⟨rfl, HB.out⟩
    | true =>
      obtain ⟨c, rfl, hc1, hcb⟩ : ∃ c : Nat, t = c ∧ 1 ≤ c ∧ c < b := by
        simp [inB] at ht
        exact ⟨t.toNat, by omega, by omega, by omega⟩
      have e1 : okThr (a : Int) (b : Int) (c : Int) = true := by unfold okThr; rw [hok, ht]; rfl
      have e : thrS (a : Int) (b : Int) (c : Int) = wrap64 ((cntN a c : Int) * (cntN a (b - c) : Int)) := by unfold thrS; rw [e1, if_pos rfl]; simp only [Int.toNat_natCast]
      rw [e, e1]
      have hx1 : (b : Int) - (c : Int) = ((b - c : Nat) : Int) := by omega
      have hF1 := flat_fl' (h := a) (H := b) (n := b - c) (by omega)
      have hF2 := flat_fl' (h := a) (H := b) (n := c) (by omega)
      have hn1 : nS (fun _ => false) a (b : Int) (flatC a ((b - c : Nat) : Int)) = cntN a c := nS_flat (H := b) (n := c) ha1 (by omega)
      have hn2 : nS (fun _ => false) a (b : Int) (flatC a (c : Int)) = cntN a (b - c) := by
        have := nS_flat (q := (fun _ => false)) (h := a) (H := b) (n := b - c) ha1 (by omega)
        rw [show b - (b - c) = c by omega] at this
        exact this
      have W1 := fun (b' m : Nat) (E : List (List Int × Value)) (V : World) (Q : FQ b' a b m (.func (.func 54) #[] #[]) (fun _ => false) E V) => wf_no b' a b m ha1 ha4 hb30 (flatC a ((b - c : Nat) : Int)) E V hF1 Q
      have W2 := fun (b' m : Nat) (E : List (List Int × Value)) (V : World) (Q : FQ b' a b m (.func (.func 54) #[] #[]) (fun _ => false) E V) => wf_no b' a b m ha1 ha4 hb30 (flatC a (c : Int)) E V hF2 Q
      simp only [hn1] at W1
      simp only [hn2] at W2
      have T1 := fun (b' m : Nat) (E : List (List Int × Value)) (V : World) (Q : FQ b' a b m (.func (.func 54) #[] #[]) (fun _ => false) E V) => filledTo_any b' a b m (.func (.func 54) #[] #[]) ((b : Int) - (c : Int)) ha1 ha4 (by omega) V Q.sf.c0
      simp only [hx1] at T1
      have T2 := fun (b' m : Nat) (E : List (List Int × Value)) (V : World) (Q : FQ b' a b m (.func (.func 54) #[] #[]) (fun _ => false) E V) => filledTo_any b' a b m (.func (.func 54) #[] #[]) (c : Int) ha1 ha4 (by omega) V Q.sf.c0
      obtain ⟨G1, hG1⟩ : ∃ G, arr (pad4 (flatC a ((b - c : Nat) : Int))) = G := ⟨_, rfl⟩
      obtain ⟨G2, hG2⟩ : ∃ G, arr (pad4 (flatC a (c : Int))) = G := ⟨_, rfl⟩
      simp only [hG1] at W1 T1
      simp only [hG2] at W2 T2
      obtain ⟨v1, hv1⟩ : ∃ v, cntN a c = v := ⟨_, rfl⟩
      obtain ⟨v2, hv2⟩ : ∃ v, cntN a (b - c) = v := ⟨_, rfl⟩
      simp only [hv1] at W1
      simp only [hv2] at W2
      rw [hv1, hv2]
      have HW1 := Lib.hid W1
      have HW2 := Lib.hid W2
      have HT1 := Lib.hid T1
      have HT2 := Lib.hid T2
      have HX := Lib.hid hx1
      clear hok e e1 C ht hN W1 W2 T1 T2 hG1 hG2 hv1 hv2 hn1 hn2 hF1 hF2 hx1
      have i1 : ¬ (c : Int) < 1 := by omega
      have i2 : ¬ (b : Int) ≤ (c : Int) := by omega
      go_enter Try.func49, Try.ntmps49
      go_wp2_with fail
      refine HC.out.mono ?_
      rintro e w1 ⟨b', m, E, rfl, Q1, hb1', hbN, hmN, _⟩
      have HQ1 := Lib.hid Q1
      have HB := Lib.hid hb1'
      have HM := Lib.hid hmN
      clear Q1 hb1' hmN hbN
      go_wp2_with fail
      try rw [HX.out]
      refine (HT1.out b' m E w1 HQ1.out).mono ?_
      rintro e w2 ⟨rfl, hb2⟩
      have HQ2 := Lib.hid (HQ1.out.keep hb2)
      have HB2 := Lib.hid (HB.out.trans (hb2.mono (by have := HB.out.size; have := HN.out; omega)))
      clear hb2
      go_wp2_with fail
      refine (HW1.out b' m E w2 HQ2.out).mono ?_
      rintro e w3 ⟨E3, rfl, Q3, hg3⟩
      have HQ3 := Lib.hid Q3
      have HB3 := Lib.hid (HB2.out.grown hg3 (by have := HB2.out.size; have := HN.out; omega) (fun j hj => by cases hj; exact HM.out))
      clear Q3 hg3
      go_wp2_with fail
      refine (HT2.out b' m E3 w3 HQ3.out).mono ?_
      rintro e w4 ⟨rfl, hb4⟩
      have HQ4 := Lib.hid (HQ3.out.keep hb4)
      have HB4 := Lib.hid (HB3.out.trans (hb4.mono (by have := HB3.out.size; have := HN.out; omega)))
      clear hb4
      go_wp2_with fail
      refine (HW2.out b' m E3 w4 HQ4.out).mono ?_
      rintro e w5 ⟨E5, rfl, Q5, hg5⟩
      have HB5 := Lib.hid (HB4.out.grown hg5 (by have := HB4.out.size; have := HN.out; omega) (fun j hj => by cases hj; exact HM.out))
      clear Q5 hg5
      go_wp2_with fail
      go_ret2
      exact ⟨rfl, HB5.out⟩
set_option maxRecDepth 100000 in
set_option maxHeartbeats 4000000 in
theorem specThr_any (h H t : Int) (w : World) : Calls Try.prog 48 #[.int .i64 h, .int .i64 H, .int .i64 t] w fun e w' => e = .returned (.tuple #[.int .i64 (thrS h H t), .bool (okThr h H t)]) ∧ Below w.heap.size w w' := by
  have C := stSize_any h H w
  cases hok : (inB h 1 4 && inB H 1 30) with
  | false =>
    rw [hok] at C
    have e1 : okThr h H t = false := by unfold okThr; rw [hok]; rfl
    have e : thrS h H t = 0 := by unfold thrS; rw [e1]; rfl
    rw [e, e1]
    clear hok e e1
    go_enter Try.func48, Try.ntmps48
    go_wp2_with fail
    refine C.mono ?_
    rintro e w' ⟨rfl, rfl⟩
    go_wp2_with fail
    go_ret2
    exact ⟨rfl, Below.refl _ _⟩
  | true =>
    rw [hok] at C
    obtain ⟨a, b, rfl, rfl, ha1, ha4, hb1, hb30⟩ := inB_ex hok
    have HC := Lib.hid C
    have C2 := l1In_any t 1 ((b : Int) - 1) w
    cases ht : inB t 1 ((b : Int) - 1) with
    | false =>
      rw [ht] at C2
      have e1 : okThr (a : Int) (b : Int) t = false := by unfold okThr; rw [hok, ht]; rfl
      have e : thrS (a : Int) (b : Int) t = 0 := by unfold thrS; rw [e1]; rfl
      rw [e, e1]
      clear hok e e1 C ht
      go_enter Try.func48, Try.ntmps48
      go_wp2_with fail
      refine HC.out.mono ?_
      rintro e w' ⟨rfl, rfl⟩
      go_wp2_with fail
      refine C2.mono ?_
      rintro e w' ⟨rfl, rfl⟩
      go_wp2_with fail
      go_ret2
      exact ⟨rfl, Below.refl _ _⟩
    | true =>
      rw [ht] at C2
      obtain ⟨c, rfl, hc1, hcb⟩ : ∃ c : Nat, t = c ∧ 1 ≤ c ∧ c < b := by
        simp [inB] at ht
        exact ⟨t.toNat, by omega, by omega, by omega⟩
      have e1 : okThr (a : Int) (b : Int) (c : Int) = true := by unfold okThr; rw [hok, ht]; rfl
      have e : thrS (a : Int) (b : Int) (c : Int) = wrap64 ((cntN a c : Int) * (cntN a (b - c) : Int)) := by unfold thrS; rw [e1, if_pos rfl]; simp only [Int.toNat_natCast]
      rw [e, e1]
      have hx1 : (b : Int) - (c : Int) = ((b - c : Nat) : Int) := by omega
      have A1 := fun (V : World) => stWays_any a c 0 ha1 ha4 hc1 (by omega) V
      have A2 := fun (V : World) => stWays_any a (b - c) 0 ha1 ha4 (by omega) (by omega) V
      have K1 := fun (N c0 : Nat) (g : Nat → Nat) (W : World) (T : TW N 0 a c N g W) => count_any N 0 a c N c0 g ha1 ha4 (by omega) _ c 0 W (Nat.lt_succ_self _) (Nat.le_refl _) (StS.nil a c (Nat.one_le_pow _ _ (by decide))) T
      have K2 := fun (N c0 : Nat) (g : Nat → Nat) (W : World) (T : TW N 0 a (b - c) N g W) => count_any N 0 a (b - c) N c0 g ha1 ha4 (by omega) _ (b - c) 0 W (Nat.lt_succ_self _) (Nat.le_refl _) (StS.nil a (b - c) (Nat.one_le_pow _ _ (by decide))) T
      simp only [vS_start] at K1 K2
      obtain ⟨v1, hv1⟩ : ∃ v, nS (fun _ => false) a (c : Int) (zeroC a) = v := ⟨_, rfl⟩
      obtain ⟨v2, hv2⟩ : ∃ v, nS (fun _ => false) a ((b - c : Nat) : Int) (zeroC a) = v := ⟨_, rfl⟩
      unfold RetW at K1 K2
      unfold cntN
      rw [hv1, hv2]
      rw [hv1] at K1
      rw [hv2] at K2
      obtain ⟨bc, hbc⟩ : ∃ bc, b - c = bc := ⟨_, rfl⟩
      have hbc' : (b : Int) - (c : Int) = (bc : Int) := by omega
      rw [hbc] at A2 K2
      have HA1 := Lib.hid A1
      have HA2 := Lib.hid A2
      have HK1 := Lib.hid K1
      have HK2 := Lib.hid K2
      have HX := Lib.hid hbc'
      clear hok e e1 C ht A1 A2 K1 K2 hv1 hv2 hx1 hbc hbc'
      go_enter Try.func48, Try.ntmps48
      go_wp2_with fail
      refine HC.out.mono ?_
      rintro e w' ⟨rfl, rfl⟩
      go_wp2_with fail
      refine C2.mono ?_
      rintro e w' ⟨rfl, rfl⟩
      go_wp2_with fail
      refine (HA1.out _).mono ?_
      rintro e w2 ⟨c0, g, rfl, T2, hb2⟩
      have HB2 := Lib.hid hb2
      have HC2 := Lib.hid (HK1.out _ c0 g w2 T2)
      clear T2 hb2
      go_wp2_with fail
      refine HC2.out.mono ?_
      rintro e w3 ⟨rfl, T3, hb3⟩
      have HB3 := Lib.hid (HB2.out.trans hb3)
      clear T3 hb3 HC2
      go_wp2_with fail
      try rw [HX.out]
      refine (HA2.out _).mono ?_
      rintro e w4 ⟨c4, g4, rfl, T4, hb4⟩
      have HB4 := Lib.hid (HB3.out.trans (hb4.mono HB3.out.size))
      have HC4 := Lib.hid (HK2.out _ c4 g4 w4 T4)
      have HS4 := Lib.hid HB3.out.size
      clear T4 hb4
      go_wp2_with fail
      try simp only [HX.out]
      refine HC4.out.mono ?_
      rintro e w5 ⟨rfl, T5, hb5⟩
      have HB5 := Lib.hid (HB4.out.trans (hb5.mono HS4.out))
      clear T5 hb5
      go_wp2_with fail
      go_ret2
      exact ⟨rfl, HB5.out⟩
end Go.Proofs.Ytebnekicbcdnaaa
