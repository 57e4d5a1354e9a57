/- GreatestRatio: the program's and the model's; the law. -/
import Derived.Test.YtilneimiedfjnaaWrd
import Derived.Test.YtilneimiedfjnaaCount
import Derived.Test.YtilneimiedfjnaaShelf
set_option linter.all false
namespace Go.Proofs.Ytilneimiedfjnaa
open Go.RowKit

def bu20 : ByteArray := ⟨#[98, 117, 98, 117, 98, 117, 98, 117, 98, 117, 98, 117, 98, 117, 98, 117, 98, 117, 98, 117]⟩
def altL : List Nat := [98, 117, 98, 117, 98, 117, 98, 117, 98, 117, 98, 117, 98, 117, 98, 117, 98, 117, 98, 117]
def fibp : Nat → Int × Int
  | 0 => (1, 1)
  | k + 1 => ((fibp k).1 + (fibp k).2, (fibp k).1)
theorem alt_ok : ∀ n : Fin 21, wcs (bu20.extract 0 n.1) = altL.take n.1 := by decide +kernel
theorem alt_word : ∀ n : Fin 21, (altL.take n.1).length ≤ 20 ∧ ∀ c ∈ altL.take n.1, c = 98 ∨ c = 117 := by decide +kernel
theorem alt_fib : ∀ n : Fin 21, max (putF (altL.take n.1)).1 (putF (altL.take n.1)).2.1 = (fibp n.1).1 ∧ ratB (putF (altL.take n.1)).1 (putF (altL.take n.1)).2.1 = decide ((fibp n.1).1 ≤ 1000) := by decide +kernel
theorem fib_bnd : ∀ n : Fin 21, (1 ≤ (fibp n.1).1 ∧ (fibp n.1).1 ≤ 100000) ∧ 1 ≤ (fibp n.1).2 ∧ (fibp n.1).2 ≤ 100000 := by decide +kernel
theorem bu_size : bu20.size = 20 := by decide +kernel
theorem bu_cut : ∀ n : Fin 21, (bu20.extract 0 n.1).size = n.1 := by decide +kernel
theorem bu_rep : (⟨(Lib.repeatL (⟨#[98, 117]⟩ : ByteArray).data.toList 10).toArray⟩ : ByteArray) = bu20 := by decide +kernel
theorem ratW_bu {n : Nat} (h : n ≤ 20) : ratW (bu20.extract 0 n) = rat2 (putF (altL.take n)).1 (putF (altL.take n)).2.1 := by
  have e := alt_ok ⟨n, by omega⟩
  have hw := alt_word ⟨n, by omega⟩
  simp only at e hw
  have hG : WordG (wcs (bu20.extract 0 n)) := by rw [e]; exact hw
  unfold ratW
  rw [(put_yes hG).1, (put_yes hG).2.1, e]
def grt (n : Nat) : Int × Int × Bool := if (fibp n).1 ≤ 1000 then ((fibp n).1, min ((2 : Int) ^ n) 4, true) else (0, 0, false)
theorem grt_rat {n : Nat} (h : n ≤ 20) : ∃ x y ok, ratW (bu20.extract 0 n) = (x, y, ok) ∧ (ok = true → max x y = (fibp n).1 ∧ (fibp n).1 ≤ 1000) ∧ (ok = false → ¬ (fibp n).1 ≤ 1000) := by
  have hf := alt_fib ⟨n, by omega⟩
  simp only at hf
  rw [ratW_bu h]
  cases e : ratB (putF (altL.take n)).1 (putF (altL.take n)).2.1 with
  | true =>
    rw [rat2_yes e]
    rw [e] at hf
    exact ⟨_, _, _, rfl, fun _ => ⟨hf.1, by simpa using hf.2.symm⟩, fun h => by cases h⟩
  | false =>
    rw [rat2_no e]
    rw [e] at hf
    exact ⟨_, _, _, rfl, (fun h => by cases h), (fun _ => by simpa using hf.2.symm)⟩
def grtS (s : Int) : Int × Int × Bool := if 1 ≤ s ∧ s ≤ 21 then grt (s - 1).toNat else (0, 0, false)
theorem pow_min (n : Nat) : min ((2 : Int) ^ n) 4 = if n = 0 then 1 else if n = 1 then 2 else 4 := by
  match n with
  | 0 => rfl
  | 1 => rfl
  | k + 2 =>
    have h1 : (1 : Nat) ≤ 2 ^ k := Nat.one_le_two_pow
    have h2 : (2 : Int) ^ (k + 2) = ((2 ^ k : Nat) : Int) * 4 := by rw [Int.pow_succ, Int.pow_succ]; simp; omega
    rw [h2, if_neg (by omega), if_neg (by omega)]
    omega
set_option maxRecDepth 100000 in
set_option maxHeartbeats 4000000 in
theorem implGrt_any (s : Int) (w : World) : Calls Try.prog 46 #[.int .i64 s] w (RetR w (grtS s)) := by
  have hc := implCount_any s w
  by_cases h : 1 ≤ s ∧ s ≤ 21
  · obtain ⟨n, hn⟩ : ∃ n : Nat, s = (n : Int) + 1 := ⟨(s - 1).toNat, by omega⟩
    have e0 : grtS s = grt n := by unfold grtS; rw [if_pos h]; congr 1; omega
    rw [e0]
    rw [cntR_yes h, show (s - 1).toNat = n by omega] at hc
    have hn20 : n ≤ 20 := by omega
    have h0 : (0 : Int) ≤ (n : Int) := by omega
    have hmin := pow_min n
    obtain ⟨P, hP⟩ : ∃ P, (2 : Int) ^ n = P := ⟨_, rfl⟩
    rw [hP] at hc hmin
    obtain ⟨X, hX⟩ : ∃ X, bu20 = X := ⟨_, rfl⟩
    have hrep : ∀ w, Calls Try.prog 88 #[.string ⟨#[98, 117]⟩, .int .i64 10] w fun e w' => e = .returned (.string X) ∧ Below w.heap.size w w' := fun w => by
      have h := Try.strings_Repeat ⟨#[98, 117]⟩ 10 w (by decide) (by decide)
      rw [bu_rep, hX] at h
      exact h
    have hsz : (X.size : Int) = 20 := by rw [← hX, bu_size]; rfl
    have hle : (n : Int) ≤ (X.size : Int) := by omega
    obtain ⟨x, y, ok, hr, hy, hno⟩ := grt_rat hn20
    rw [hX] at hr
    have hw := fun w => implRatioW_any (X.extract 0 n) w (by have := bu_cut ⟨n, by omega⟩; simp only at this; rw [← hX, this]; omega)
    rw [hr] at hw
    have HR := Lib.hid hrep
    have HW := Lib.hid hw
    have HC := Lib.hid hc
    have HP := Lib.hid hP
    have HM := Lib.hid hmin
    subst hn
    clear hrep hw hc hX hr hP hmin h e0 hsz
    cases ok with
    | true =>
      obtain ⟨hmx, hf⟩ := hy rfl
      have e1 : grt n = ((fibp n).1, min ((2 : Int) ^ n) 4, true) := if_pos hf
      rw [e1, ← hmx, HP.out]
      clear hno hy e1 hf
      go_enter Try.func46, Try.ntmps46
      go_wp2_with fail
      refine HC.out.mono ?_
      rintro e w' ⟨rfl, rfl⟩
      go_wp2_with fail
      refine (HR.out _).mono ?_
      rintro e w1 ⟨rfl, hb1⟩
      go_wp2_with fail
      refine (HW.out _).mono ?_
      rintro e w2 ⟨rfl, hb2⟩
      go_wp2_with fail
      all_goals
        refine bodyPost_ret (v := .tuple #[.int .i64 (max x y), .int .i64 (min P 4), .bool true]) (by simp [results, Try.results46, go_sem] <;> omega) rfl ?_
        exact ⟨rfl, hb1.trans (hb2.mono hb1.size)⟩
    | false =>
      have e1 : grt n = (0, 0, false) := if_neg (hno rfl)
      rw [e1]
      clear hno hy e1
      go_enter Try.func46, Try.ntmps46
      go_wp2_with fail
      refine HC.out.mono ?_
      rintro e w' ⟨rfl, rfl⟩
      go_wp2_with fail
      refine (HR.out _).mono ?_
      rintro e w1 ⟨rfl, hb1⟩
      go_wp2_with fail
      refine (HW.out _).mono ?_
      rintro e w2 ⟨rfl, hb2⟩
      go_wp2_with fail
      refine bodyPost_ret (v := .tuple #[.int .i64 0, .int .i64 0, .bool false]) (by simp [results, Try.results46, go_sem]) rfl ?_
      exact ⟨rfl, hb1.trans (hb2.mono hb1.size)⟩
  · have e0 : grtS s = (0, 0, false) := if_neg h
    rw [e0]
    rw [cntR_no h] at hc
    clear h e0
    go_enter Try.func46, Try.ntmps46
    go_wp2_with fail
    refine hc.mono ?_
    rintro e w' ⟨rfl, rfl⟩
    go_wp2_with fail
    refine bodyPost_ret (v := .tuple #[.int .i64 0, .int .i64 0, .bool false]) (by simp [results, Try.results46, go_sem]) rfl ?_
    exact ⟨rfl, Below.refl _ _⟩
set_option maxRecDepth 100000 in
set_option maxHeartbeats 4000000 in
theorem specGrt_any (s : Int) (w : World) : Calls Try.prog 45 #[.int .i64 s] w (RetR w (grtS s)) := by
  have hc := raMany_any s w
  by_cases h : 1 ≤ s ∧ s ≤ 21
  · obtain ⟨n, hn⟩ : ∃ n : Nat, s = (n : Int) + 1 := ⟨(s - 1).toNat, by omega⟩
    have e0 : grtS s = grt n := by unfold grtS; rw [if_pos h]; congr 1; omega
    rw [e0]
    rw [inB_iff.2 h] at hc
    have hn20 : n ≤ 20 := by omega
    have hmin := pow_min n
    have HM := Lib.hid hmin
    have HC := Lib.hid hc
    subst hn
    clear hmin hc h e0
    go_enter Try.func45, Try.ntmps45
    go_wp2_with fail
    refine HC.out.mono ?_
    rintro e w' ⟨rfl, rfl⟩
    go_wp2_with fail
    go_loopw [5, 6, 7] (fun a b i wr => ∃ k : Nat, k ≤ n ∧ a = .int .i64 (fibp k).1 ∧ b = .int .i64 (fibp k).2 ∧ i = .int .i64 ((k : Int) + 1) ∧ wr = w) (fun _ _ i _ => n + 1 - (intOf i).toNat)
    case atStart => exact ⟨0, Nat.zero_le _, rfl, rfl, rfl, rfl⟩
    case round =>
      obtain ⟨k, hk, rfl, rfl, rfl, rfl⟩ := hrel
      have hb := fib_bnd ⟨k, by omega⟩
      simp only at hb
      obtain ⟨⟨b1, b2⟩, b3, b4⟩ := hb
      by_cases hlt : k < n
      · have i1 : (k : Int) + 1 < (n : Int) + 1 := by omega
        obtain ⟨x, hx⟩ : ∃ x, (fibp k).1 = x := ⟨_, rfl⟩
        obtain ⟨y, hy⟩ : ∃ y, (fibp k).2 = y := ⟨_, rfl⟩
        rw [hx] at b1 b2 ⊢
        rw [hy] at b3 b4 ⊢
        have HX := Lib.hid hx
        have HY := Lib.hid hy
        clear hx hy
        go_wp2_with fail
        go_roundw
        case rel => exact ⟨k + 1, by omega, by rw [← HX.out, ← HY.out]; rfl, by rw [← HX.out]; rfl, by simp, by first | rfl | trivial⟩
        case measure => simp [intOf]; omega
      · obtain rfl : k = n := by omega
        have i1 : ¬ (k : Int) + 1 < (k : Int) + 1 := by omega
        obtain ⟨x, hx⟩ : ∃ x, (fibp k).1 = x := ⟨_, rfl⟩
        rw [hx] at b1 b2 ⊢
        have HX := Lib.hid hx
        by_cases hf : x ≤ 1000
        · have e1 : grt k = (x, min ((2 : Int) ^ k) 4, true) := by unfold grt; rw [hx, if_pos hf]
          rw [HM.out] at e1
          clear hx
          by_cases z0 : k = 0
          · rw [if_pos z0] at e1
            have E := Lib.hid e1
            have i2 : ((k : Int) + 1 == 1) = true := by simp; omega
            clear e1 z0
            go_wp2_with fail
            refine bodyPost_ret (v := .tuple #[.int .i64 x, .int .i64 1, .bool true]) (by simp [results, Try.results45, go_sem]) rfl ?_
            exact ⟨by rw [E.out], Below.refl _ _⟩
          · by_cases z1 : k = 1
            · rw [if_neg z0, if_pos z1] at e1
              have E := Lib.hid e1
              have i2 : ((k : Int) + 1 == 1) = false := by simp; omega
              have i3 : ((k : Int) + 1 == 2) = true := by simp; omega
              clear e1 z1 z0
              go_wp2_with fail
              refine bodyPost_ret (v := .tuple #[.int .i64 x, .int .i64 2, .bool true]) (by simp [results, Try.results45, go_sem]) rfl ?_
              exact ⟨by rw [E.out], Below.refl _ _⟩
            · rw [if_neg z0, if_neg z1] at e1
              have E := Lib.hid e1
              have i2 : ((k : Int) + 1 == 1) = false := by simp; omega
              have i3 : ((k : Int) + 1 == 2) = false := by simp; omega
              clear e1 z1 z0
              go_wp2_with fail
              refine bodyPost_ret (v := .tuple #[.int .i64 x, .int .i64 4, .bool true]) (by simp [results, Try.results45, go_sem]) rfl ?_
              exact ⟨by rw [E.out], Below.refl _ _⟩
        · have e1 : grt k = (0, 0, false) := by unfold grt; rw [hx, if_neg hf]
          have E := Lib.hid e1
          have hf' : 1000 < x := by omega
          clear e1 hx hf
          go_wp2_with fail
          refine bodyPost_ret (v := .tuple #[.int .i64 0, .int .i64 0, .bool false]) (by simp [results, Try.results45, go_sem]) rfl ?_
          exact ⟨by rw [E.out], Below.refl _ _⟩
  · have e0 : grtS s = (0, 0, false) := if_neg h
    rw [e0]
    have d := inB21 h
    rw [d] at hc
    clear h e0 d
    go_enter Try.func45, Try.ntmps45
    go_wp2_with fail
    refine hc.mono ?_
    rintro e w' ⟨rfl, rfl⟩
    go_wp2_with fail
    refine bodyPost_ret (v := .tuple #[.int .i64 0, .int .i64 0, .bool false]) (by simp [results, Try.results45, go_sem]) rfl ?_
    exact ⟨rfl, Below.refl _ _⟩
set_option maxRecDepth 100000 in
theorem lawGreatestRatio (s : Int) (w : World) : Calls Try.prog 12 #[.int .i64 s] w fun e w' => e = .returned (.bool true) ∧ Below w.heap.size w w' := by
  obtain ⟨⟨x, y, ok⟩, hr⟩ : ∃ r, grtS s = r := ⟨_, rfl⟩
  have c1 := fun w => specGrt_any s w
  have c2 := fun w => implGrt_any s w
  rw [hr] at c1 c2
  have C1 := Lib.hid c1
  have C2 := Lib.hid c2
  clear c1 c2 hr
  have h1 : (ok != ok) = false := by simp
  have h2 : (x != x) = false := by simp
  have h3 : (y != y) = false := by simp
  go_enter Try.func12, Try.ntmps12
  go_wp2_with fail
  refine (C1.out _).mono ?_
  rintro e w1 ⟨rfl, hb1⟩
  go_wp2_with fail
  refine (C2.out _).mono ?_
  rintro e w2 ⟨rfl, hb2⟩
  go_wp2_with fail
  go_ret
  exact ⟨rfl, hb1.trans (hb2.mono hb1.size)⟩
end Go.Proofs.Ytilneimiedfjnaa
