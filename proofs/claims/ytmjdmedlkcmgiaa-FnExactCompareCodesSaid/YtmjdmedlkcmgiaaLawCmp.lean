/- The walk of FnExactCompareCodes. -/
import Derived.Test.YtmjdmedlkcmgiaaGen
import Derived.Test.YtmjdmedlkcmgiaaCmp
import Derived.Test.YtmjdmedlkcmgiaaSSL
set_option linter.all false
namespace Go.Proofs.Ytmjdmedlkcmgiaa
open Go.RowKit

/-- What szIntSS returns: -1, or a number of at least 0 and the list is small. -/
def SizedT (T : Int) (M : List (List Int)) (w : World) (e : Ending) (w' : World) : Prop := ∃ x : Int, e = .returned (.int .i64 x) ∧ (x = -1 ∨ (0 ≤ x ∧ x ≤ T ∧ (M.length : Int) + (tot M : Int) ≤ T)) ∧ w = w'
theorem szIntSS_gen (A : Option Addr) (n c : Nat) (M : List (List Int)) (T : Int) (w : World) (hT : 0 ≤ T ∧ T ≤ 1048576) (hl : M.length = n) (hn : n ≤ 9223372036854775807) (hm : ∀ l ∈ M, l.length ≤ 9223372036854775807) (hL : RowsAt w w.heap.size A M) :
    Calls Try.prog 24 #[.slice A n c, .int .i64 T] w (SizedT T M w) := by
  subst hl
  by_cases h : T < (M.length : Int)
  · have h' : T - (M.length : Int) < 0 := by omega
    go_enter Try.func24, Try.ntmps24
    go_wp2_with fail
    go_ret
    exact ⟨_, rfl, .inl rfl, rfl⟩
  · have h' : ¬ T - (M.length : Int) < 0 := by omega
    go_enter Try.func24, Try.ntmps24
    go_wp2_with fail
    go_loop [1, 5] (fun q i => ∃ k : Nat, k ≤ M.length ∧ i = .int .i64 k ∧ q = .int .i64 (T - M.length - tot (M.take k)) ∧ (M.length : Int) + (tot (M.take k) : Int) ≤ T) (fun _ i => M.length - (intOf i).toNat)
    case atStart => exact ⟨0, Nat.zero_le _, rfl, by simp [tot], by simp [tot]; omega⟩
    case round =>
      obtain ⟨k, hk, rfl, rfl, hsm⟩ := hrel
      by_cases hlt : k < M.length
      · obtain ⟨l, hs⟩ : ∃ l, M[k]? = some l := ⟨_, List.getElem?_eq_getElem (by omega)⟩
        obtain ⟨b, off, A1, c1, rfl, hb, d0, hc1, hi⟩ := hL k _ hs
        have hs1 := tot_take_succ M k l hs
        have HS := Lib.hid hs1
        have hln := hm l (List.mem_of_getElem? hs)
        obtain ⟨t, htt⟩ : ∃ t, tot (M.take k) = t := ⟨_, rfl⟩
        rw [htt] at hsm HS ⊢
        clear hL hs hs1 htt hm
        by_cases hq : T - M.length - t < (l.length : Int)
        · have CS := szIntS_any A1 l.length c1 (T - M.length - t) w (by omega) (by omega) hln
          rw [if_pos hq] at CS
          go_wp2_with fail
          refine CS.mono ?_
          rintro e w' ⟨rfl, rfl⟩
          go_wp2_with fail
          go_ret
          exact ⟨_, rfl, .inl rfl, rfl⟩
        · have CS := szIntS_any A1 l.length c1 (T - M.length - t) w (by omega) (by omega) hln
          rw [if_neg hq] at CS
          have h3 : ¬ T - M.length - t - (l.length : Int) < 0 := by omega
          go_wp2_with fail
          refine CS.mono ?_
          rintro e w' ⟨rfl, rfl⟩
          go_wp2_with fail
          go_round
          case rel => exact ⟨k + 1, by omega, by go_num, by rw [HS.out]; congr 1; omega, by rw [HS.out]; omega⟩
          case measure => simp [intOf]; omega
      · obtain rfl : k = M.length := by omega
        have e1 : M.take M.length = M := List.take_of_length_le (Nat.le_refl _)
        have hsm' : (M.length : Int) + (tot M : Int) ≤ T := by rw [e1] at hsm; exact hsm
        go_wp2_with fail
        go_ret
        exact ⟨_, rfl, .inr ⟨by omega, by omega, hsm'⟩, rfl⟩

set_option maxRecDepth 100000 in
set_option maxHeartbeats 4000000 in
theorem lawCompareCodes (A : Option Addr) (n c : Nat) (M : List (List Int)) (A' : Option Addr) (n' c' : Nat) (M' : List (List Int)) (w : World) (hl : M.length = n) (hnn : n ≤ 9223372036854775807) (hmm : ∀ l ∈ M, l.length ≤ 9223372036854775807) (hL : RowsAt w w.heap.size A M) (hwf : ∀ l ∈ M, ∀ s ∈ l, wfI s)
    (hl' : M'.length = n') (hnn' : n' ≤ 9223372036854775807) (hmm' : ∀ l ∈ M', l.length ≤ 9223372036854775807) (hL' : RowsAt w w.heap.size A' M') (hwf' : ∀ l ∈ M', ∀ s ∈ l, wfI s) :
    Calls Try.prog 11 #[.slice A n c, .slice A' n' c'] w fun e w' => e = .returned (.bool true) ∧ Below w.heap.size w w' := by
  subst hl
  subst hl'
  obtain ⟨v, hv⟩ : ∃ v, (cmpK M M').1 = v := ⟨_, rfl⟩
  obtain ⟨ok, hk⟩ : ∃ ok, (cmpK M M').2 = ok := ⟨_, rfl⟩
  have HV := Lib.hid hv
  have HK := Lib.hid hk
  clear hv hk
  have h1 : (ok != ok) = false := by simp
  have h1v : (v != v) = false := by simp
  go_enter Try.func11, Try.ntmps11
  go_wp2_with fail
  refine (szIntSS_gen A M.length c M 1048576 w (by omega) rfl hnn hmm hL).mono ?_
  rintro e w1 ⟨sz, rfl, hsz, rfl⟩
  rcases hsz with rfl | ⟨hs0, hs1, hs2⟩
  · go_wp2_with fail
    go_ret
    exact ⟨rfl, Below.refl _ _⟩
  have hs0' : ¬ sz < 0 := by omega
  go_wp2_with fail
  refine (szIntSS_gen A' M'.length c' M' sz w (by omega) rfl hnn' hmm' hL').mono ?_
  rintro e w1 ⟨sy, rfl, hsz, rfl⟩
  rcases hsz with rfl | ⟨ht0, ht1, ht2⟩
  · go_wp2_with fail
    go_ret
    exact ⟨rfl, Below.refl _ _⟩
  have ht0' : ¬ sy < 0 := by omega
  have hn : M.length ≤ 1048576 := by omega
  have hm : ∀ l ∈ M, l.length ≤ 1048576 := fun l hl => by have := tot_mem hl; omega
  have hn' : M'.length ≤ 1048576 := by omega
  have hm' : ∀ l ∈ M', l.length ≤ 1048576 := fun l hl => by have := tot_mem hl; omega
  clear hnn hmm hs1 hs2 hnn' hmm' ht1 ht2
  go_wp2_with fail
  refine (toIntSS_any A M.length c M w rfl hn hm hL).mono ?_
  rintro e w2 ⟨g2, R2, rfl, hR2, ho2, hb2⟩
  go_wp2_with fail
  refine (toIntSS_any A' M'.length c' M' w2 rfl hn' hm' ((hL'.below hb2).mono hb2.size)).mono ?_
  rintro e w3 ⟨g3, R3, rfl, hR3, ho3, hb3⟩
  have ho2 := ho2.keep hb3
  have hB3 := hb2.trans (hb3.mono hb2.size)
  go_wp2_with fail
  have k1 := specCmp_any _ _ _ _ M.length M'.length M M' w3 rfl rfl hn hn' (by have := ho2.rowsZ; rwa [hR2] at this) (by have := ho3.rowsZ; rwa [hR3] at this)
  rw [HV.out, HK.out] at k1
  refine k1.mono ?_
  rintro e w4 ⟨rfl, hb4⟩
  have hB4 := hB3.trans (hb4.mono hB3.size)
  clear k1 ho2 ho3 hb2 hb3 hb4 hB3 hR2 hR3
  go_wp2_with fail
  refine (toIntSS_any A M.length c M w4 rfl hn hm ((hL.below hB4).mono hB4.size)).mono ?_
  rintro e w5 ⟨g5, R5, rfl, hR5, ho5, hb5⟩
  have hB5 := hB4.trans (hb5.mono hB4.size)
  go_wp2_with fail
  refine (toIntSS_any A' M'.length c' M' w5 rfl hn' hm' ((hL'.below hB5).mono hB5.size)).mono ?_
  rintro e w6 ⟨g6, R6, rfl, hR6, ho6, hb6⟩
  have ho5 := ho5.keep hb6
  have hB6 := hB5.trans (hb6.mono hB5.size)
  go_wp2_with fail
  have k1 := implCmp_any _ _ _ _ M.length M'.length M M' w6 rfl rfl hn hn' (by have := ho5.rowsZ; rwa [hR5] at this) (by have := ho6.rowsZ; rwa [hR6] at this) hwf hwf'
  rw [HV.out, HK.out] at k1
  refine k1.mono ?_
  rintro e w7 ⟨rfl, hb7⟩
  have ho5 := ho5.keep hb7
  have ho6 := ho6.keep hb7
  have hB7 := hB6.trans (hb7.mono hB6.size)
  clear k1 hb5 hb6 hb7 hB4 hB5 hB6
  go_wp2_with fail
  refine (toIntSS_any A M.length c M w7 rfl hn hm ((hL.below hB7).mono hB7.size)).mono ?_
  rintro e w8 ⟨g8, R8, rfl, hR8, ho8, hb8⟩
  have ho5 := ho5.keep hb8
  have ho6 := ho6.keep hb8
  have hB8 := hB7.trans (hb8.mono hB7.size)
  clear hb8 hB7
  go_wp2_with fail
  refine (eqIntSS_same _ _ M.length _ _ M w8 rfl hn hm ho5.cap ho8.cap (by have := ho5.rows; rwa [hR5] at this) (by have := ho8.rows; rwa [hR8] at this)).mono ?_
  rintro e w9 ⟨rfl, hb9⟩
  have ho6 := ho6.keep hb9
  have hB9 := hB8.trans (hb9.mono hB8.size)
  clear hb9 hB8 ho5 ho8
  go_wp2_with fail
  refine (toIntSS_any A' M'.length c' M' w9 rfl hn' hm' ((hL'.below hB9).mono hB9.size)).mono ?_
  rintro e w10 ⟨g10, R10, rfl, hR10, ho10, hb10⟩
  have ho6 := ho6.keep hb10
  have hB10 := hB9.trans (hb10.mono hB9.size)
  clear hb10 hB9
  go_wp2_with fail
  refine (eqIntSS_same _ _ M'.length _ _ M' w10 rfl hn' hm' ho6.cap ho10.cap (by have := ho6.rows; rwa [hR6] at this) (by have := ho10.rows; rwa [hR10] at this)).mono ?_
  rintro e w11 ⟨rfl, hb11⟩
  have hB11 := hB10.trans (hb11.mono hB10.size)
  go_wp2_with fail
  go_ret
  exact ⟨rfl, hB11⟩
end Go.Proofs.Ytmjdmedlkcmgiaa
