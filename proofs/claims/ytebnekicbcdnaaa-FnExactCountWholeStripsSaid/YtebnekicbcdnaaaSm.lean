/- The model's states of strips. -/
import Derived.Test.YtebnekicbcdnaaaSh
import Derived.Test.YtebnekicbcdnaaaFirstC
set_option linter.all false
namespace Go.Proofs.Ytebnekicbcdnaaa
open Go.RowKit

theorem and3 (n : Nat) (h : n < 256) : bits BinOp.and IntKind.i64 (n : Int) 3 = ((n % 4 : Nat) : Int) := by
  have : ∀ m : Fin 256, bits BinOp.and IntKind.i64 (m.val : Int) 3 = ((m.val % 4 : Nat) : Int) := by decide +kernel
  exact this ⟨n, h⟩
set_option maxRecDepth 100000 in
theorem stRow_any (s r : Nat) (hs : s < 256) (hr : r < 4) (w : World) : Calls Try.prog 102 #[.int .i64 s, .int .i64 r] w fun e w' => e = .returned (.int .i64 (dg s r : Nat)) ∧ w = w' := by
  have hr' : r = 0 ∨ r = 1 ∨ r = 2 ∨ r = 3 := by omega
  have key := and3 (s / 4 ^ r) (Nat.lt_of_le_of_lt (Nat.div_le_self _ _) hs)
  have e : dg s r = s / 4 ^ r % 4 := rfl
  rw [e, ← key]
  rcases hr' with rfl | rfl | rfl | rfl
  all_goals
    clear key e
    go_enter Try.func102, Try.ntmps102
    go_wp2_with fail
    go_ret
    exact ⟨ret_int (by simp), rfl⟩
/-- No row is free. -/
def NoF (h s : Nat) : Prop := ∀ r, r < h → 1 ≤ dg s r
theorem fr_or (h s : Nat) : NoF h s ∨ ∃ row, FR h s row := by
  have key : ∀ n, (∀ r, r < n → 1 ≤ dg s r) ∨ ∃ row, row < n ∧ dg s row = 0 ∧ ∀ r, r < row → 1 ≤ dg s r := by
    intro n
    induction n with
    | zero => exact .inl fun r hr => by omega
    | succ n ih =>
      rcases ih with ih | ⟨row, h1, h2, h3⟩
      · by_cases e : dg s n = 0
        · exact .inr ⟨n, by omega, e, ih⟩
        · refine .inl fun r hr => ?_
          by_cases e2 : r = n
          · subst e2; omega
          · exact ih r (by omega)
      · exact .inr ⟨row, by omega, h2, h3⟩
  rcases key h with k | ⟨row, h1, h2, h3⟩
  · exact .inl k
  · exact .inr ⟨row, h1, h2, h3⟩
theorem s256 {h s : Nat} (hh : h ≤ 4) (hs : s < 4 ^ h) : s < 256 := Nat.lt_of_lt_of_le hs ((show 4 ^ h ≤ 4 ^ 4 from Nat.pow_le_pow_right (by decide) hh))
/-- The first row that is not full, or -1. -/
noncomputable def frI (h s : Nat) : Int := if dc (NoF h s) then -1 else (Classical.epsilon (FR h s) : Nat)
theorem FR.uniq {h s a b : Nat} (ha : FR h s a) (hb : FR h s b) : a = b := by
  rcases Nat.lt_trichotomy a b with k | k | k
  · have := hb.2.2 a k; have := ha.2.1; omega
  · exact k
  · have := ha.2.2 b k; have := hb.2.1; omega
theorem frI_no {h s : Nat} (k : NoF h s) : frI h s = -1 := by unfold frI; rw [dc_true k]; rfl
theorem frI_yes {h s row : Nat} (k : FR h s row) : frI h s = row := by
  unfold frI
  have hn : ¬ NoF h s := fun hn => by have := hn row k.1; have := k.2.1; omega
  have he : FR h s (Classical.epsilon (FR h s)) := Classical.epsilon_spec ⟨row, k⟩
  rw [dc_false hn, he.uniq k]; rfl
set_option maxRecDepth 100000 in
theorem stFree_any (s h : Nat) (hh : h ≤ 4) (hs : s < 4 ^ h) (w : World) : Calls Try.prog 78 #[.int .i64 s, .int .i64 h] w fun e w' => e = .returned (.int .i64 (frI h s)) ∧ w = w' := by
  have h256 := s256 hh hs
  go_enter Try.func78, Try.ntmps78
  go_wp2_with fail
  go_loopw [5] (fun kv wr => ∃ k : Nat, k ≤ h ∧ kv = .int .i64 (k : Int) ∧ (∀ r, r < k → 1 ≤ dg s r) ∧ wr = w) (fun kv _ => h - (intOf kv).toNat)
  case atStart => exact ⟨0, Nat.zero_le _, rfl, fun r hr => by omega, rfl⟩
  case round =>
    obtain ⟨k, hk, rfl, hd, hw⟩ := hrel
    subst hw
    have HD := Lib.hid hd
    clear hd
    by_cases hlt : k < h
    · have i1 : (k : Int) < (h : Int) := by omega
      have i0 : (0 : Int) ≤ (k : Int) := by omega
      obtain ⟨d, hd⟩ : ∃ d, dg s k = d := ⟨_, rfl⟩
      have C := stRow_any s k h256 (by omega)
      rw [hd] at C
      have d4 : d < 4 := by rw [← hd]; exact dg_lt _ _
      have HDD := Lib.hid hd
      clear hd
      by_cases h0 : d = 0
      · subst h0
        go_wp2_with fail
        refine (C _).mono ?_
        rintro e w2 ⟨rfl, rfl⟩
        have HF : Hid (frI h s = k) := Lib.hid (frI_yes ⟨hlt, HDD.out, HD.out⟩)
        go_wp2_with fail
        go_ret
        exact ⟨by rw [HF.out]; rfl, rfl⟩
      · have e0 : ((d : Int) == 0) = false := by simp; omega
        go_wp2_with fail
        refine (C _).mono ?_
        rintro e w2 ⟨rfl, rfl⟩
        go_wp2_with fail
        go_roundw
        case rel => exact ⟨k + 1, by omega, by go_num, fun r hr => by
          by_cases e : r = k
          · subst e; have := HDD.out; omega
          · exact HD.out r (by omega), trivial⟩
        case measure => simp [intOf]; omega
    · obtain rfl : k = h := by omega
      have HF : Hid (frI k s = -1) := Lib.hid (frI_no HD.out)
      go_wp2_with fail
      go_ret
      exact ⟨by rw [HF.out]; rfl, rfl⟩
theorem w64 {a : Int} (h : 0 ≤ a) (h' : a ≤ 4611686018427387904) : wrap64 a = a := by unfold wrap64; omega
theorem pow24 (k : Nat) (hk : k < 4) : (2 : Int) ^ (2 * k) = ((4 ^ k : Nat) : Int) := by
  have hk' : k = 0 ∨ k = 1 ∨ k = 2 ∨ k = 3 := by omega
  rcases hk' with rfl | rfl | rfl | rfl <;> rfl
theorem shl1 (k : Nat) (hk : k < 4) (d : Nat) (hd : d ≤ 3) : (d : Int) * 2 ^ (2 * (k : Int)).toNat = ((d * 4 ^ k : Nat) : Int) := by
  have hk' : k = 0 ∨ k = 1 ∨ k = 2 ∨ k = 3 := by omega
  rcases hk' with rfl | rfl | rfl | rfl <;> simp
/-- The state with a square put. -/
noncomputable def putV (h left s row d : Nat) : Int := if dc (OkP h left s row d) then (putN s row d d : Nat) else 0
set_option maxRecDepth 100000 in
set_option maxHeartbeats 2000000 in
theorem stPut_any (s h left row d : Nat) (hh : h ≤ 4) (hl : left ≤ 30) (hs : s < 4 ^ h) (hrow : row < h) (hd1 : 1 ≤ d) (hd : d ≤ 3) (w : World) : Calls Try.prog 81 #[.int .i64 s, .int .i64 h, .int .i64 left, .int .i64 row, .int .i64 d] w fun e w' => e = .returned (.tuple #[.int .i64 (putV h left s row d), .bool (dc (OkP h left s row d))]) ∧ w = w' := by
  by_cases h1 : row + d ≤ h
  · by_cases h2 : d ≤ left
    · have i1 : ¬ (h : Int) < (row : Int) + (d : Int) := by omega
      have i2 : ¬ (left : Int) < (d : Int) := by omega
      go_enter Try.func81, Try.ntmps81
      go_wp2_with fail
      go_loopw [0, 12] (fun sv kv wr => ∃ n : Nat, n ≤ d ∧ kv = .int .i64 ((row : Int) + (n : Int)) ∧ sv = .int .i64 ((putN s row d n : Nat) : Int) ∧ (∀ k, row ≤ k → k < row + n → dg s k = 0) ∧ wr = w) (fun _ kv _ => h - (intOf kv).toNat)
      case atStart => exact ⟨0, Nat.zero_le _, by simp, rfl, fun k a b => by omega, rfl⟩
      case round =>
        obtain ⟨n, hn, rfl, rfl, hz, hw⟩ := hrel
        subst hw
        have hput := putN_dg hd hh hs n (by omega) hz
        obtain ⟨S, hS⟩ : ∃ S, putN s row d n = S := ⟨_, rfl⟩
        rw [hS] at hput ⊢
        have hS256 := s256 hh hput.1
        have HZ := Lib.hid hz
        have HP := Lib.hid hput
        have HS := Lib.hid hS
        clear hz hput hS
        by_cases hlt : n < d
        · have j1 : (row : Int) + (n : Int) < (row : Int) + (d : Int) := by omega
          have j0 : (0 : Int) ≤ (row : Int) + (n : Int) := by omega
          obtain ⟨v, hv⟩ : ∃ v, dg S (row + n) = v := ⟨_, rfl⟩
          have C := stRow_any S (row + n) hS256 (by omega)
          rw [hv, Int.natCast_add] at C
          have v4 : v < 4 := by rw [← hv]; exact dg_lt _ _
          have hvs : dg s (row + n) = v := by rw [← hv, HP.out.2 (row + n) (by omega), if_neg (by omega)]
          have HV := Lib.hid hv
          have HVS := Lib.hid hvs
          clear hv hvs
          by_cases h0 : v = 0
          · subst h0
            have hlt2 := put_lt (d := d) hd (show row + n < h by omega) hh HP.out.1 HV.out
            have h2 := s256 hh hlt2
            have hsh := shl1 (row + n) (by omega) d hd
            rw [Int.natCast_add] at hsh
            have k1 : (0 : Int) ≤ 2 * ((row : Int) + (n : Int)) := by omega
            have k2 : 2 * ((row : Int) + (n : Int)) ≤ 64 := by omega
            have hb : (d * 4 ^ (row + n) : Nat) < 256 := by omega
            go_wp2_with fail
            refine (C _).mono ?_
            rintro e w2 ⟨rfl, rfl⟩
            go_wp2_with fail
            go_roundw
            case rel => exact ⟨n + 1, by omega, by go_num, by
              have e1 : (d : Int) * 4 ^ (row + n) = ((d * 4 ^ (row + n) : Nat) : Int) := by simp
              have e2 : putN s row d (n + 1) = S + d * 4 ^ (row + n) := by rw [← HS.out]; rfl
              rw [e1, e2, show wrap64 ((d * 4 ^ (row + n) : Nat) : Int) = ((d * 4 ^ (row + n) : Nat) : Int) from w64 (by omega) (by omega), w64 (by omega) (by omega)]; simp, fun k a b => by
              by_cases e : k = row + n
              · rw [e]; exact HVS.out
              · exact HZ.out k a (by omega), trivial⟩
            case measure => simp [intOf]; omega
          · have e0 : (0 : Int) < (v : Int) := by omega
            have hno : ¬ OkP h left s row d := fun k => h0 (by have := k.2.2 (row + n) (by omega) (by omega); rw [HVS.out] at this; exact this)
            have HE : Hid (dc (OkP h left s row d) = false ∧ putV h left s row d = 0) := Lib.hid ⟨dc_false hno, by unfold putV; rw [dc_false hno]; rfl⟩
            clear hno
            go_wp2_with fail
            refine (C _).mono ?_
            rintro e w2 ⟨rfl, rfl⟩
            go_wp2_with fail
            go_ret2
            exact ⟨by rw [HE.out.1, HE.out.2]; rfl, rfl⟩
        · obtain rfl : n = d := by omega
          have hok : OkP h left s row n := ⟨h1, h2, HZ.out⟩
          have HE : Hid (dc (OkP h left s row n) = true ∧ putV h left s row n = (S : Int)) := Lib.hid ⟨dc_true hok, by unfold putV; rw [dc_true hok, HS.out]; rfl⟩
          clear hok
          go_wp2_with fail
          go_ret2
          exact ⟨by rw [HE.out.1, HE.out.2]; rfl, rfl⟩
    · have i1 : ¬ (h : Int) < (row : Int) + (d : Int) := by omega
      have i2 : (left : Int) < (d : Int) := by omega
      have hno : ¬ OkP h left s row d := fun k => h2 k.2.1
      have HE : Hid (dc (OkP h left s row d) = false ∧ putV h left s row d = 0) := Lib.hid ⟨dc_false hno, by unfold putV; rw [dc_false hno]; rfl⟩
      clear hno
      go_enter Try.func81, Try.ntmps81
      go_wp2_with fail
      go_ret2
      exact ⟨by rw [HE.out.1, HE.out.2]; rfl, rfl⟩
  · have i1 : (h : Int) < (row : Int) + (d : Int) := by omega
    have hno : ¬ OkP h left s row d := fun k => h1 k.1
    have HE : Hid (dc (OkP h left s row d) = false ∧ putV h left s row d = 0) := Lib.hid ⟨dc_false hno, by unfold putV; rw [dc_false hno]; rfl⟩
    clear hno
    go_enter Try.func81, Try.ntmps81
    go_wp2_with fail
    go_ret2
    exact ⟨by rw [HE.out.1, HE.out.2]; rfl, rfl⟩
set_option maxRecDepth 100000 in
theorem stShift_any (s h : Nat) (hh : h ≤ 4) (hs : s < 4 ^ h) (hd : NoF h s) (w : World) : Calls Try.prog 79 #[.int .i64 s, .int .i64 h] w fun e w' => e = .returned (.int .i64 (shN s h : Nat)) ∧ w = w' := by
  go_enter Try.func79, Try.ntmps79
  go_wp2_with fail
  go_loopw [0, 5] (fun sv kv wr => ∃ k : Nat, k ≤ h ∧ kv = .int .i64 (k : Int) ∧ sv = .int .i64 ((shN s k : Nat) : Int) ∧ wr = w) (fun _ kv _ => h - (intOf kv).toNat)
  case atStart => exact ⟨0, Nat.zero_le _, rfl, rfl, rfl⟩
  case round =>
    obtain ⟨k, hk, rfl, rfl, hw⟩ := hrel
    subst hw
    have hsh := shN_dg hh hs hd k hk
    obtain ⟨S, hS⟩ : ∃ S, shN s k = S := ⟨_, rfl⟩
    rw [hS] at hsh ⊢
    have hS256 := s256 hh hsh.1
    have HP := Lib.hid hsh
    have HS := Lib.hid hS
    clear hsh hS
    by_cases hlt : k < h
    · have i1 : (k : Int) < (h : Int) := by omega
      have i0 : (0 : Int) ≤ (k : Int) := by omega
      have hle := HP.out.2.2 hlt
      have hb : (4 ^ k : Nat) < 256 := by omega
      have k1 : (0 : Int) ≤ 2 * (k : Int) := by omega
      have k2 : 2 * (k : Int) ≤ 64 := by omega
      go_wp2_with fail
      go_roundw
      case rel => exact ⟨k + 1, by omega, by go_num, by
        obtain ⟨P, hP⟩ : ∃ P, 4 ^ k = P := ⟨_, rfl⟩
        rw [hP] at hle hb
        have e1 : (2 : Int) ^ (2 * k) = (P : Int) := by rw [← hP]; exact pow24 k (by omega)
        have e2 : shN s (k + 1) = S - P := by rw [← HS.out, ← hP]; rfl
        rw [e1, e2, show wrap64 (P : Int) = (P : Int) from w64 (by omega) (by omega), w64 (by omega) (by omega)]; congr 1; omega, trivial⟩
      case measure => simp [intOf]; omega
    · obtain rfl : k = h := by omega
      go_wp2_with fail
      go_ret
      exact ⟨by rw [HS.out]; rfl, rfl⟩
theorem stSize_any (h l : Int) (w : World) : Calls Try.prog 50 #[.int .i64 h, .int .i64 l] w fun e w' => e = .returned (.bool (inB h 1 4 && inB l 1 30)) ∧ w = w' := by
  have C := l1In_any h 1 4 w
  cases ha : inB h 1 4 with
  | false =>
    rw [ha] at C
    go_enter Try.func50, Try.ntmps50
    go_wp2_with fail
    refine C.mono ?_
    rintro e w' ⟨rfl, rfl⟩
    go_wp2_with fail
    go_ret
    exact ⟨rfl, rfl⟩
  | true =>
    rw [ha] at C
    go_enter Try.func50, Try.ntmps50
    go_wp2_with fail
    refine C.mono ?_
    rintro e w' ⟨rfl, rfl⟩
    go_wp2_with fail
    refine (l1In_any l 1 30 _).mono ?_
    rintro e w' ⟨rfl, rfl⟩
    go_wp2_with fail
    go_ret
    exact ⟨by simp, rfl⟩
end Go.Proofs.Ytebnekicbcdnaaa
