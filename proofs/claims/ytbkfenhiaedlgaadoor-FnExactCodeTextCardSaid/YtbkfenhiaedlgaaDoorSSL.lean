/- Contracts of the laws' helpers at lists of lists of numbers. -/
import Derived.Test.YtbkfenhiaedlgaaDoorSS
set_option linter.all false
namespace Go.Proofs.YtbkfenhiaedlgaaDoor
open Go.RowKit

theorem eqIntSS_same (A A' : Option Addr) (n c c' : Nat) (M : List (List Int)) (w : World) (hl : M.length = n) (hn : n ≤ 1048576) (hm : ∀ l ∈ M, l.length ≤ 1048576) (_hc : n ≤ c) (_hc' : n ≤ c') (hL : RowsAt w w.heap.size A M) (hL' : RowsAt w w.heap.size A' M) :
    Calls Tryd.prog 24 #[.slice A n c, .slice A' n c'] w fun e w' => e = .returned (.bool true) ∧ Below w.heap.size w w' := by
  go_enter Tryd.func24, Tryd.ntmps24
  go_wp2_with fail
  obtain ⟨g, hg⟩ : ∃ g, g = w.heap.size := ⟨_, rfl⟩
  rw [← hg] at hL hL'
  have hBg := Lib.hid hg
  clear hg
  go_loopw [5] (fun i wr => ∃ k : Nat, k ≤ n ∧ i = .int .i64 k ∧ Below g w wr) (fun i _ => n - (intOf i).toNat)
  case atStart => exact ⟨0, Nat.zero_le _, rfl, Below.refl _ _⟩
  case round =>
    obtain ⟨k, hk, rfl, hbr⟩ := hrel
    by_cases hlt : k < n
    · obtain ⟨s, hs⟩ : ∃ s, M[k]? = some s := ⟨_, List.getElem?_eq_getElem (by rw [hl]; exact hlt)⟩
      have hsl := hm s (List.mem_of_getElem? hs)
      have hLw := hL.below hbr
      have hLw' := hL'.below hbr
      clear hL hL' hm
      obtain ⟨b, off, A1, c1, rfl, hb, c0, hc1, hi1⟩ := hLw k s hs
      obtain ⟨b', off', A2, c2, rfl, hb', d0, hc2, hi2⟩ := hLw' k s hs
      clear hLw hLw' hs hl
      have hsz : g ≤ wr.heap.size := by have := hbr.size; rw [hBg.out]; omega
      go_wp2_with fail
      have C0 : ∀ u : Later g wr, u.val.cell? ⟨b, off + k, none⟩ = some (.slice A1 s.length c1) := fun u => (u.ok.cell (p := ⟨b, _, none⟩) hb).trans c0
      have D0 : ∀ u : Later g wr, u.val.cell? ⟨b', off' + k, none⟩ = some (.slice A2 s.length c2) := fun u => (u.ok.cell (p := ⟨b', _, none⟩) hb').trans d0
      have HC := fun u : Later g wr => eqIntS_same A1 A2 s.length c1 c2 s u.val rfl hsl hc1 hc2 ((hi1.below u.ok).mono (Nat.le_trans hsz u.ok.size)) ((hi2.below u.ok).mono (Nat.le_trans hsz u.ok.size))
      have k0 : (0 : Int) ≤ (k : Int) := by omega
      have k1 : (k : Int) < (n : Int) := by omega
      refine wp_region_sub g (by kernel_rfl) (by kernel_rfl) ?_
      repeat (first | go_big_quiet_step ((go_at_call 69; exact sub_of _ hsz (HC _))) | quiet_step ((go_at_call 69; exact sub_of _ hsz (HC _))))
      refine wpQuiet_nil ?_
      rintro _ ⟨⟨w2, hb2⟩, rfl⟩
      go_wp2_with fail
      go_roundw
      case rel => exact ⟨k + 1, by omega, by go_num, hbr.trans hb2⟩
      case measure => simp [intOf]; omega
    · go_wp2_with fail
      go_ret
      exact ⟨rfl, by rw [← hBg.out]; exact hbr⟩

theorem szIntS_any (A : Option Addr) (n c : Nat) (left : Int) (w : World) (h0 : 0 ≤ left) (h1 : left ≤ 1048576) (hn : n ≤ 9223372036854775807) :
    Calls Tryd.prog 61 #[.slice A n c, .int .i64 left] w fun e w' => e = .returned (.int .i64 (if left < (n : Int) then -1 else left - n)) ∧ w = w' := by
  by_cases h : left < (n : Int)
  · have h' : left - (n : Int) < 0 := by omega
    rw [if_pos h]
    go_enter Tryd.func61, Tryd.ntmps61
    go_wp2
    go_ret
    exact ⟨rfl, rfl⟩
  · have h' : ¬ left - (n : Int) < 0 := by omega
    rw [if_neg h]
    go_enter Tryd.func61, Tryd.ntmps61
    go_wp2
    go_ret
    exact ⟨rfl, rfl⟩

/-- What szIntSS returns: -1, or a number of at least 0 and the list is small. -/
def Sized (M : List (List Int)) (w : World) (e : Ending) (w' : World) : Prop := ∃ x : Int, e = .returned (.int .i64 x) ∧ (x = -1 ∨ (0 ≤ x ∧ M.length + tot M ≤ 1048576)) ∧ w = w'
theorem szIntSS_any (A : Option Addr) (n c : Nat) (M : List (List Int)) (w : World) (hl : M.length = n) (hn : n ≤ 9223372036854775807) (hm : ∀ l ∈ M, l.length ≤ 9223372036854775807) (hL : RowsAt w w.heap.size A M) :
    Calls Tryd.prog 20 #[.slice A n c, .int .i64 1048576] w (Sized M w) := by
  subst hl
  by_cases h : (1048576 : Int) < (M.length : Int)
  · have h' : (1048576 : Int) - (M.length : Int) < 0 := by omega
    go_enter Tryd.func20, Tryd.ntmps20
    go_wp2_with fail
    go_ret
    exact ⟨_, rfl, .inl rfl, rfl⟩
  · have h' : ¬ (1048576 : Int) - (M.length : Int) < 0 := by omega
    go_enter Tryd.func20, Tryd.ntmps20
    go_wp2_with fail
    go_loop [1, 5] (fun q i => ∃ k : Nat, k ≤ M.length ∧ i = .int .i64 k ∧ q = .int .i64 (1048576 - M.length - tot (M.take k)) ∧ M.length + tot (M.take k) ≤ 1048576) (fun _ i => M.length - (intOf i).toNat)
    case atStart => exact ⟨0, Nat.zero_le _, rfl, by simp [tot], by simp [tot]; omega⟩
    case round =>
      obtain ⟨k, hk, rfl, rfl, hsm⟩ := hrel
      by_cases hlt : k < M.length
      · obtain ⟨l, hs⟩ : ∃ l, M[k]? = some l := ⟨_, List.getElem?_eq_getElem (by omega)⟩
        obtain ⟨b, off, A1, c1, rfl, hb, d0, hc1, hi⟩ := hL k _ hs
        have hs1 := tot_take_succ M k l hs
        have HS := Lib.hid hs1
        have hln := hm l (List.mem_of_getElem? hs)
        obtain ⟨t, htt⟩ : ∃ t, tot (M.take k) = t := ⟨_, rfl⟩
        rw [htt] at hsm HS ⊢
        clear hL hs hs1 htt hm
        by_cases hq : (1048576 : Int) - M.length - t < (l.length : Int)
        · have CS := szIntS_any A1 l.length c1 (1048576 - M.length - t) w (by omega) (by omega) hln
          rw [if_pos hq] at CS
          go_wp2_with fail
          refine CS.mono ?_
          rintro e w' ⟨rfl, rfl⟩
          go_wp2_with fail
          go_ret
          exact ⟨_, rfl, .inl rfl, rfl⟩
        · have CS := szIntS_any A1 l.length c1 (1048576 - M.length - t) w (by omega) (by omega) hln
          rw [if_neg hq] at CS
          have h3 : ¬ (1048576 : Int) - M.length - t - (l.length : Int) < 0 := by omega
          go_wp2_with fail
          refine CS.mono ?_
          rintro e w' ⟨rfl, rfl⟩
          go_wp2_with fail
          go_round
          case rel => exact ⟨k + 1, by omega, by go_num, by rw [HS.out]; congr 1; omega, by rw [HS.out]; omega⟩
          case measure => simp [intOf]; omega
      · obtain rfl : k = M.length := by omega
        have e1 : M.take M.length = M := List.take_of_length_le (Nat.le_refl _)
        have hsm' : M.length + tot M ≤ 1048576 := by rw [e1] at hsm; exact hsm
        go_wp2_with fail
        go_ret
        exact ⟨_, rfl, .inr ⟨by omega, hsm'⟩, rfl⟩

end Go.Proofs.YtbkfenhiaedlgaaDoor
