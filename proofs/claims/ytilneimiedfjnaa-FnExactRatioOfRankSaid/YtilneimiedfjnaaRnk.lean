/- RatioOfRank: the words with a place. -/
import Derived.Test.YtilneimiedfjnaaWrd
import Derived.Test.YtilneimiedfjnaaCount
import Derived.Test.YtilneimiedfjnaaBld
import Derived.Laws.Concat
import Derived.Laws.Bits128
set_option linter.all false
namespace Go.Proofs.Ytilneimiedfjnaa
open Go.RowKit

/-- The signs of the word of n signs with a place. -/
def plc : Nat → Nat → List UInt8
  | 0, _ => []
  | n + 1, r => if r < 2 ^ n then 98 :: plc n r else 117 :: plc n (r - 2 ^ n)
theorem plc_b {n r : Nat} (h : r < 2 ^ n) : plc (n + 1) r = 98 :: plc n r := if_pos h
theorem plc_u {n r : Nat} (h : ¬ r < 2 ^ n) : plc (n + 1) r = 117 :: plc n (r - 2 ^ n) := if_neg h
theorem plc_len : ∀ (n r : Nat), (plc n r).length = n := by
  intro n
  induction n with
  | zero => intro r; rfl
  | succ n ih =>
    intro r
    by_cases h : r < 2 ^ n
    · rw [plc_b h, List.length_cons, ih]
    · rw [plc_u h, List.length_cons, ih]
theorem plc_all : ∀ (n r : Nat), ∀ c ∈ plc n r, c.toNat = 98 ∨ c.toNat = 117 := by
  intro n
  induction n with
  | zero => intro r c h; cases h
  | succ n ih =>
    intro r c h
    by_cases hr : r < 2 ^ n
    · rw [plc_b hr, List.mem_cons] at h
      rcases h with rfl | h
      · exact .inl rfl
      · exact ih _ c h
    · rw [plc_u hr, List.mem_cons] at h
      rcases h with rfl | h
      · exact .inr rfl
      · exact ih _ c h
def plcS (n r : Nat) : ByteArray := ⟨(plc n r).toArray⟩
theorem plcS_size (n r : Nat) : (plcS n r).size = n := by
  show (plc n r).toArray.size = n
  rw [List.size_toArray, plc_len]
theorem plcS_wcs (n r : Nat) : wcs (plcS n r) = (plc n r).map UInt8.toNat := by
  show (plc n r).toArray.toList.map _ = _
  rw [List.toList_toArray]
theorem plcS_word {n r : Nat} (h : n ≤ 20) : WordG (wcs (plcS n r)) := by
  refine ⟨by rw [wcs_len, plcS_size]; exact h, fun c hc => ?_⟩
  rw [plcS_wcs, List.mem_map] at hc
  obtain ⟨b, hb, rfl⟩ := hc
  exact plc_all n r b hb
theorem cat_one (l : List UInt8) (c : UInt8) : (⟨l.toArray⟩ : ByteArray) ++ ⟨#[c]⟩ = ⟨(l ++ [c]).toArray⟩ := ByteArray.mk_append_mk l [c]
theorem half_succ (j : Nat) : 2 ^ (j + 1) / 2 = 2 ^ j := by rw [Nat.pow_succ]; omega
noncomputable def rnkR (s r : Int) : Int × Int × Bool := if (1 ≤ s ∧ s ≤ 21) ∧ 0 ≤ r ∧ r < (2 : Int) ^ (s - 1).toNat then ratW (plcS (s - 1).toNat r.toNat) else (0, 0, false)
set_option maxRecDepth 100000 in
set_option maxHeartbeats 8000000 in
theorem implRnk_any (s r : Int) (w : World) : Calls Try.prog 48 #[.int .i64 s, .int .i64 r] w (RetR w (rnkR s r)) := by
  have hc := implCount_any s w
  by_cases h : 1 ≤ s ∧ s ≤ 21
  · obtain ⟨n, hn⟩ : ∃ n : Nat, s = (n : Int) + 1 := ⟨(s - 1).toNat, by omega⟩
    have hn1 : (s - 1).toNat = n := by omega
    have hn20 : n ≤ 20 := by omega
    obtain ⟨C, hC⟩ : ∃ C, 2 ^ n = C := ⟨_, rfl⟩
    have hCi : (2 : Int) ^ n = (C : Int) := by rw [← hC]; simp
    have hCb : C ≤ 1048576 := by rw [← hC]; exact Nat.pow_le_pow_right (by decide) hn20
    rw [cntR_yes h, hn1, hCi] at hc
    have HC := Lib.hid hc
    clear hc
    by_cases hr0 : 0 ≤ r
    · by_cases hr1 : r < (C : Int)
      · obtain ⟨m, rfl⟩ := Int.eq_ofNat_of_zero_le hr0
        have e0 : rnkR s m = ratW (plcS n m) := by unfold rnkR; rw [hn1, hCi, if_pos ⟨h, by omega, hr1⟩]; rfl
        rw [e0]
        have hw := fun w => implRatioW_any (plcS n m) w (by rw [plcS_size]; omega)
        obtain ⟨res, hres⟩ : ∃ res, ratW (plcS n m) = res := ⟨_, rfl⟩
        rw [hres] at hw ⊢
        have HW := Lib.hid hw
        have hmC : m < 2 ^ n := by omega
        have HMC := Lib.hid hmC
        have HCC := Lib.hid hC
        have hdiv : (C : Int) / 2 = ((2 ^ n / 2 : Nat) : Int) := by rw [hC]; omega
        have HDV := Lib.hid hdiv
        have hb0 : Lib.IsBuilder 94 5 w.heap.size w.heap.size (Lib.byteCells []) (w.alloc (.cells #[.pointer none, .slice none 0 0] 94)) := Lib.fresh_isBuilder 94 5 w
        have hbB : Below w.heap.size w (w.alloc (.cells #[.pointer none, .slice none 0 0] 94)) := (Below.refl _ _).alloc (Nat.le_refl _) _
        have d1 : ¬ (m : Int) < 0 := by omega
        have d2 : ¬ C ≤ m := by omega
        have d3 : ¬ (C : Int) ≤ (m : Int) := by omega
        subst hn
        clear h hn1 hCi hC e0 hw hres hmC hdiv
        go_enter Try.func48, Try.ntmps48
        go_wp2_with fail
        refine HC.out.mono ?_
        rintro e w' ⟨rfl, rfl⟩
        go_wp2_with fail
        go_loopw [1, 10] (fun rk hf wr => ∃ (k r' : Nat) (acc : List UInt8), k ≤ n ∧ r' < 2 ^ k ∧ acc ++ plc k r' = plc n m ∧ rk = .int .i64 r' ∧ hf = .int .i64 ((2 ^ k / 2 : Nat) : Int) ∧ Lib.IsBuilder 94 5 w.heap.size w.heap.size (Lib.byteCells acc) wr ∧ Below w.heap.size w wr) (fun _ hf _ => (intOf hf).toNat)
        case atStart => exact ⟨n, m, [], Nat.le_refl _, HMC.out, rfl, rfl, by rw [← HDV.out], hb0, hbB⟩
        case round =>
          obtain ⟨k, r', acc, hk, hr', hacc, rfl, rfl, hI, hb⟩ := hrel
          have hal : acc.length ≤ 1000 := by
            have h1 := congrArg List.length hacc
            rw [List.length_append, plc_len, plc_len] at h1
            omega
          have HAL := Lib.hid hal
          have HACC := Lib.hid hacc
          clear hacc hal hb0 hbB
          cases k with
          | zero =>
            have h1 := HACC.out
            rw [show plc 0 r' = [] from rfl, List.append_nil] at h1
            have H1 := Lib.hid h1
            clear h1
            rw [show 2 ^ 0 / 2 = 0 from rfl]
            go_wp2_with fail
            refine (Try.Builder_String_any w.heap.size w.heap.size acc _ hI hb.size).mono ?_
            rintro e w2 ⟨rfl, hb2⟩
            have hb3 := hb.trans hb2
            rw [H1.out]
            clear hb hb2 hI
            go_wp2_with fail
            refine (HW.out _).mono ?_
            rintro e w3 ⟨rfl, hb4⟩
            go_wp2_with fail
            refine bodyPost_ret (v := .tuple #[.int .i64 res.1, .int .i64 res.2.1, .bool res.2.2]) (by simp [results, Try.results48, go_sem]) rfl ?_
            exact ⟨rfl, hb3.trans (hb4.mono hb3.size)⟩
          | succ j =>
            rw [half_succ]
            obtain ⟨P, hP⟩ : ∃ P, 2 ^ j = P := ⟨_, rfl⟩
            have HP := Lib.hid hP
            have hP0 : 1 ≤ P := by rw [← hP]; exact Nat.two_pow_pos j
            have hPb : P ≤ 1048576 := by rw [← hP]; exact Nat.le_trans (Nat.pow_le_pow_right (by decide : 0 < 2) (show j ≤ 20 by omega)) (by decide)
            have hr2 : r' < 2 * P := by rw [Nat.pow_succ, hP] at hr'; omega
            rw [hP]
            have p1 : (0 : Int) < (P : Int) := by omega
            clear hP
            by_cases hlt : r' < P
            · have hlt2 := hlt
              have HN : Hid ((acc ++ [98]) ++ plc j r' = plc n m) := by
                show (acc ++ [98]) ++ plc j r' = plc n m
                rw [← HACC.out, plc_b (by rw [HP.out]; omega), List.append_assoc]; rfl
              have hbc : Lib.byteCells acc ++ [Value.int .u8 98] = Lib.byteCells (acc ++ [98]) := by rw [Lib.byteCells_append]; rfl
              have HBC := Lib.hid hbc
              clear hbc hr'
              go_wp2_with fail
              refine (writeByte_any w.heap.size w.heap.size (Lib.byteCells acc) 98 _ hI (by rw [Lib.byteCells_length]; exact HAL.out) hb.size).mono ?_
              rintro e w2 ⟨rfl, hI2, hb2⟩
              rw [HBC.out] at hI2
              have hb3 := hb.trans hb2
              clear hI hb hb2
              go_wp2_with fail
              go_roundw
              case rel => exact ⟨j, r', acc ++ [98], by omega, by rw [HP.out]; omega, HN.out, rfl, by rw [HP.out]; simp, hI2, hb3⟩
              case measure => simp [intOf]; omega
            · have hge : P ≤ r' := by omega
              have HN : Hid ((acc ++ [117]) ++ plc j (r' - P) = plc n m) := by
                show (acc ++ [117]) ++ plc j (r' - P) = plc n m
                rw [← HACC.out, plc_u (by rw [HP.out]; omega), List.append_assoc, HP.out]; rfl
              have hbc : Lib.byteCells acc ++ [Value.int .u8 117] = Lib.byteCells (acc ++ [117]) := by rw [Lib.byteCells_append]; rfl
              have HBC := Lib.hid hbc
              clear hbc hr'
              go_wp2_with fail
              refine (writeByte_any w.heap.size w.heap.size (Lib.byteCells acc) 117 _ hI (by rw [Lib.byteCells_length]; exact HAL.out) hb.size).mono ?_
              rintro e w2 ⟨rfl, hI2, hb2⟩
              rw [HBC.out] at hI2
              have hb3 := hb.trans hb2
              clear hI hb hb2
              go_wp2_with fail
              go_roundw
              case rel => exact ⟨j, (r' - P), acc ++ [117], by omega, by rw [HP.out]; omega, HN.out, by simp; omega, by rw [HP.out]; simp, hI2, hb3⟩
              case measure => simp [intOf]; omega
      · have e0 : rnkR s r = (0, 0, false) := by unfold rnkR; rw [hn1, hCi, if_neg (fun h => hr1 h.2.2)]
        rw [e0]
        have i1 : (C : Int) ≤ r := by omega
        subst hn
        clear h hn1 hCi hC e0 hr1
        go_enter Try.func48, Try.ntmps48
        go_wp2_with fail
        refine HC.out.mono ?_
        rintro e w' ⟨rfl, rfl⟩
        go_wp2_with fail
        refine bodyPost_ret (v := .tuple #[.int .i64 0, .int .i64 0, .bool false]) (by simp [results, Try.results48, go_sem]) rfl ?_
        exact ⟨rfl, Below.refl _ _⟩
    · have e0 : rnkR s r = (0, 0, false) := by unfold rnkR; rw [if_neg (fun h => hr0 h.2.1)]
      rw [e0]
      have i1 : r < 0 := by omega
      subst hn
      clear h hn1 hCi hC e0 hr0
      go_enter Try.func48, Try.ntmps48
      go_wp2_with fail
      refine HC.out.mono ?_
      rintro e w' ⟨rfl, rfl⟩
      go_wp2_with fail
      refine bodyPost_ret (v := .tuple #[.int .i64 0, .int .i64 0, .bool false]) (by simp [results, Try.results48, go_sem]) rfl ?_
      exact ⟨rfl, Below.refl _ _⟩
  · have e0 : rnkR s r = (0, 0, false) := if_neg (fun k => h k.1)
    rw [e0]
    rw [cntR_no h] at hc
    clear h e0
    by_cases hr0 : r < 0
    · go_enter Try.func48, Try.ntmps48
      go_wp2_with fail
      refine hc.mono ?_
      rintro e w' ⟨rfl, rfl⟩
      go_wp2_with fail
      refine bodyPost_ret (v := .tuple #[.int .i64 0, .int .i64 0, .bool false]) (by simp [results, Try.results48, go_sem]) rfl ?_
      exact ⟨rfl, Below.refl _ _⟩
    · have i1 : (0 : Int) ≤ r := by omega
      go_enter Try.func48, Try.ntmps48
      go_wp2_with fail
      refine hc.mono ?_
      rintro e w' ⟨rfl, rfl⟩
      go_wp2_with fail
      refine bodyPost_ret (v := .tuple #[.int .i64 0, .int .i64 0, .bool false]) (by simp [results, Try.results48, go_sem]) rfl ?_
      exact ⟨rfl, Below.refl _ _⟩
theorem bit_of {r j : Nat} : (r / 2 ^ j) % 2 = if r % 2 ^ (j + 1) < 2 ^ j then 0 else 1 := by
  have h1 : r % 2 ^ (j + 1) = r % 2 ^ j + 2 ^ j * (r / 2 ^ j % 2) := by rw [Nat.pow_succ, Nat.mod_mul]
  have h2 := Nat.mod_lt r (Nat.two_pow_pos j)
  have h3 := Nat.mod_two_eq_zero_or_one (r / 2 ^ j)
  rcases h3 with h3 | h3
  · rw [h3] at h1 ⊢
    rw [if_pos (by omega)]
  · rw [h3] at h1 ⊢
    rw [if_neg (by omega)]
theorem mod_lo {r j : Nat} (h : r % 2 ^ (j + 1) < 2 ^ j) : r % 2 ^ j = r % 2 ^ (j + 1) := by
  have h1 : r % 2 ^ (j + 1) = r % 2 ^ j + 2 ^ j * (r / 2 ^ j % 2) := by rw [Nat.pow_succ, Nat.mod_mul]
  have h3 := Nat.mod_two_eq_zero_or_one (r / 2 ^ j)
  rcases h3 with h3 | h3
  · rw [h3] at h1; omega
  · rw [h3] at h1; omega
theorem mod_hi {r j : Nat} (h : ¬ r % 2 ^ (j + 1) < 2 ^ j) : r % 2 ^ j = r % 2 ^ (j + 1) - 2 ^ j := by
  have h1 : r % 2 ^ (j + 1) = r % 2 ^ j + 2 ^ j * (r / 2 ^ j % 2) := by rw [Nat.pow_succ, Nat.mod_mul]
  have h2 := Nat.mod_lt r (Nat.two_pow_pos j)
  have h3 := Nat.mod_two_eq_zero_or_one (r / 2 ^ j)
  rcases h3 with h3 | h3
  · rw [h3] at h1; omega
  · rw [h3] at h1; omega
theorem and_one (x : Nat) (h : x < 1048576) : bits .and .i64 (x : Int) 1 = ((x % 2 : Nat) : Int) := by
  have h1 : (BitVec.ofInt 64 1).toNat = 2 ^ 1 - 1 := by decide
  have key : (BitVec.ofInt 64 (x : Int) &&& BitVec.ofInt 64 1).toNat = ((x : Int) % ((2 ^ 64 : Nat) : Int)).toNat % 2 ^ 1 := by
    rw [BitVec.toNat_and, BitVec.toNat_ofInt, h1, Nat.and_two_pow_sub_one_eq_mod]
  show IntKind.i64.wrap ((BitVec.ofInt 64 (x : Int) &&& BitVec.ofInt 64 1).toNat : Nat) = _
  rw [key, IntKind.wrap_i64]
  omega
set_option maxRecDepth 100000 in
set_option maxHeartbeats 8000000 in
theorem raPlace_any (n r : Nat) (w : World) (hn : n ≤ 20) (hr : r < 2 ^ n) : Calls Try.prog 85 #[.int .i64 n, .int .i64 r] w fun e w' => e = .returned (.string (plcS n r)) ∧ w = w' := by
  have hrb : r < 1048576 := Nat.lt_of_lt_of_le hr (Nat.pow_le_pow_right (by decide) hn)
  have HR := Lib.hid hr
  clear hr
  go_enter Try.func85, Try.ntmps85
  go_wp2_with fail
  go_loopw [5, 6] (fun o i wr => ∃ (k : Nat) (acc : List UInt8), k ≤ n ∧ acc ++ plc k (r % 2 ^ k) = plc n r ∧ o = .string ⟨acc.toArray⟩ ∧ i = .int .i64 ((k : Int) - 1) ∧ wr = w) (fun _ i _ => (intOf i + 1).toNat)
  case atStart => exact ⟨n, [], Nat.le_refl _, by rw [Nat.mod_eq_of_lt HR.out]; rfl, rfl, rfl, rfl⟩
  case round =>
    obtain ⟨k, acc, hk, hacc, rfl, rfl, rfl⟩ := hrel
    have hal : acc.length ≤ 20 := by
      have h1 := congrArg List.length hacc
      rw [List.length_append, plc_len, plc_len] at h1
      omega
    have hal2 : acc.length + 1 ≤ 9223372036854775807 := by omega
    have HACC := Lib.hid hacc
    clear hacc
    cases k with
    | zero =>
      have h1 := HACC.out
      rw [show plc 0 (r % 2 ^ 0) = [] from rfl, List.append_nil] at h1
      subst h1
      have k1 : ¬ (0 : Int) ≤ ((0 : Nat) : Int) - 1 := by omega
      clear hal hal2
      go_wp2_with fail
      go_ret
      exact ⟨rfl, rfl⟩
    | succ j =>
      have k1 : (0 : Int) ≤ ((j + 1 : Nat) : Int) - 1 := by omega
      have hx : (r / 2 ^ j) < 1048576 := Nat.lt_of_le_of_lt (Nat.div_le_self _ _) hrb
      have hbit := bit_of (r := r) (j := j)
      have hand := and_one (r / 2 ^ j) hx
      have hcast : ((r / 2 ^ j : Nat) : Int) = (r : Int) / 2 ^ j := by simp
      rw [hcast] at hand
      clear hcast hx
      by_cases hlo : r % 2 ^ (j + 1) < 2 ^ j
      · rw [if_pos hlo] at hbit
        rw [hbit] at hand
        have hq : (bits .and .i64 ((r : Int) / 2 ^ j) 1 == 0) = true := by rw [hand]; rfl
        have HN : Hid ((acc ++ [98]) ++ plc j (r % 2 ^ j) = plc n r) := by
          show (acc ++ [98]) ++ plc j (r % 2 ^ j) = plc n r
          rw [← HACC.out, plc_b hlo, mod_lo hlo, List.append_assoc]; rfl
        clear hbit hand hlo
        go_wp2_with fail
        go_roundw
        case rel => exact ⟨j, acc ++ [98], by omega, HN.out, by rw [cat_one], by simp, by first | rfl | trivial⟩
        case measure => simp [intOf]
      · rw [if_neg hlo] at hbit
        rw [hbit] at hand
        have hq : (bits .and .i64 ((r : Int) / 2 ^ j) 1 == 0) = false := by rw [hand]; rfl
        have HN : Hid ((acc ++ [117]) ++ plc j (r % 2 ^ j) = plc n r) := by
          show (acc ++ [117]) ++ plc j (r % 2 ^ j) = plc n r
          rw [← HACC.out, plc_u hlo, mod_hi hlo, List.append_assoc]; rfl
        clear hbit hand hlo
        go_wp2_with fail
        go_roundw
        case rel => exact ⟨j, acc ++ [117], by omega, HN.out, by rw [cat_one], by simp, by first | rfl | trivial⟩
        case measure => simp [intOf]
end Go.Proofs.Ytilneimiedfjnaa
