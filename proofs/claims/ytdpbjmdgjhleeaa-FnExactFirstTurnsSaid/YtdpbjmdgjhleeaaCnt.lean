/- The model's sum, and its number of cuts. -/
import Derived.Test.YtdpbjmdgjhleeaaCv
import Derived.Test.YtdpbjmdgjhleeaaVal
set_option linter.all false
namespace Go.Proofs.Ytdpbjmdgjhleeaa
open Go.RowKit
theorem wsumF_take (R : List Int) (k : Nat) (u : Int) (h : R[k]? = some u) : wsumF (R.take (k + 1)) = wrap64 (wsumF (R.take k) + u) := by
  rw [List.take_add_one, h]
  exact wsumF_snoc _ _
set_option maxRecDepth 100000 in
set_option maxHeartbeats 2000000 in
theorem ctSum_any (A : Option Addr) (n c : Nat) (R : List Int) (w : World) (hl : R.length = n) (hn : n ≤ 1048576) (hL : IntsAt w w.heap.size A R) :
    Calls Try.prog 60 #[.slice A n c] w fun e w' => e = .returned (.int .i64 (wsumF R)) ∧ Below w.heap.size w w' := by
  subst hl
  go_enter Try.func60, Try.ntmps60
  go_wp2_with fail
  go_loopw [3, 8] (fun s i wr => ∃ k : Nat, k ≤ R.length ∧ i = .int .i64 k ∧ s = .int .i64 (wsumF (R.take k)) ∧ Below w.heap.size w wr) (fun _ i _ => R.length - (intOf i).toNat)
  case atStart => exact ⟨0, Nat.zero_le _, rfl, rfl, Below.refl _ _⟩
  case round =>
    obtain ⟨k, hk, rfl, rfl, hbr⟩ := hrel
    by_cases hlt : k < R.length
    · obtain ⟨u, hu⟩ : ∃ u, R[k]? = some u := ⟨_, List.getElem?_eq_getElem hlt⟩
      obtain ⟨b, off, rfl, hb, d0⟩ := hL k u hu
      have d0r : wr.cell? ⟨b, off + k, none⟩ = some (.int .i64 u) := (hbr.cell (p := ⟨b, _, none⟩) hb).trans d0
      have k0 : (0 : Int) ≤ (k : Int) := by omega
      have k1 : (k : Int) < (R.length : Int) := by omega
      have HT := Lib.hid (wsumF_take R k u hu)
      clear hL hu d0
      go_wp2_with fail
      go_roundw
      case rel => exact ⟨k + 1, by omega, by go_num, by rw [HT.out], hbr⟩
      case measure => simp [intOf]; omega
    · obtain rfl : k = R.length := by omega
      have e : R.take R.length = R := List.take_length
      rw [e]
      clear hL e
      go_wp2_with fail
      go_ret
      exact ⟨rfl, hbr⟩
theorem specCnt_any (W H : Int) (w : World) : Calls Try.prog 22 #[.int .i64 W, .int .i64 H] w fun e w' => e = .returned (.tuple #[.int .i64 (wsumF (byF W H)), .bool (okF W H)]) ∧ Below w.heap.size w w' := by
  have ha := ctSize_any W H w
  cases hok : okF W H with
  | true =>
    have h := okF_iff.1 hok
    obtain ⟨m, rfl⟩ := Int.eq_ofNat_of_zero_le (show 0 ≤ W by omega)
    obtain ⟨n, rfl⟩ := Int.eq_ofNat_of_zero_le (show 0 ≤ H by omega)
    rw [hok] at ha
    have hl := byF_len m n
    rw [byF_yes hok] at hl ⊢
    have C := ctBy_any m n 6 (by omega) (by omega) (by omega) w
    obtain ⟨R, hR⟩ : ∃ R, byM m n 6 = R := ⟨_, rfl⟩
    rw [hR] at C hl ⊢
    have HL := Lib.hid hl
    clear hok hR hl
    go_enter Try.func22, Try.ntmps22
    go_wp2_with fail
    refine ha.mono ?_
    rintro e w' ⟨rfl, rfl⟩
    go_wp2_with fail
    refine C.mono ?_
    rintro e w2 ⟨A, c, rfl, ho, hb⟩
    go_wp2_with fail
    refine (ctSum_any A R.length c R w2 rfl (by have := HL.out; omega) (ints_of_own ho)).mono ?_
    rintro e w3 ⟨rfl, hb3⟩
    go_wp2_with fail
    go_ret2
    exact ⟨rfl, hb.trans (hb3.mono hb.size)⟩
  | false =>
    rw [hok] at ha
    rw [byF_no hok]
    go_enter Try.func22, Try.ntmps22
    go_wp2_with fail
    refine ha.mono ?_
    rintro e w' ⟨rfl, rfl⟩
    go_wp2_with fail
    go_ret2
    exact ⟨rfl, Below.refl _ _⟩
end Go.Proofs.Ytdpbjmdgjhleeaa
