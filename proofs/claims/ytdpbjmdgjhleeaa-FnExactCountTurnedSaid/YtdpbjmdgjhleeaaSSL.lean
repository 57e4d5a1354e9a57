/- Contracts of the laws' helpers at lists of lists of numbers. -/
import Derived.Test.YtdpbjmdgjhleeaaSS
set_option linter.all false
namespace Go.Proofs.Ytdpbjmdgjhleeaa
open Go.RowKit

theorem eqIntSS_same (A A' : Option Addr) (n c c' : Nat) (M : List (List Int)) (w : World) (hl : M.length = n) (hn : n ≤ 1048576) (hm : ∀ l ∈ M, l.length ≤ 1048576) (_hc : n ≤ c) (_hc' : n ≤ c') (hL : RowsAt w w.heap.size A M) (hL' : RowsAt w w.heap.size A' M) :
    Calls Try.prog 39 #[.slice A n c, .slice A' n c'] w fun e w' => e = .returned (.bool true) ∧ Below w.heap.size w w' := by
  go_enter Try.func39, Try.ntmps39
  go_wp2_with fail
  obtain ⟨g, hg⟩ : ∃ g, g = w.heap.size := ⟨_, rfl⟩
  rw [← hg] at hL hL'
  have hBg := Lib.hid hg
  clear hg
  go_loopw [5] (fun i wr => ∃ k : Nat, k ≤ n ∧ i = .int .i64 k ∧ Below g w wr) (fun i _ => n - (intOf i).toNat)
  case atStart => exact ⟨0, Nat.zero_le _, rfl, Below.refl _ _⟩
  case round =>
    obtain ⟨k, hk, rfl, hbr⟩ := hrel
    by_cases hlt : k < n
    · obtain ⟨s, hs⟩ : ∃ s, M[k]? = some s := ⟨_, List.getElem?_eq_getElem (by rw [hl]; exact hlt)⟩
      have hsl := hm s (List.mem_of_getElem? hs)
      have hLw := hL.below hbr
      have hLw' := hL'.below hbr
      clear hL hL' hm
      obtain ⟨b, off, A1, c1, rfl, hb, c0, hc1, hi1⟩ := hLw k s hs
      obtain ⟨b', off', A2, c2, rfl, hb', d0, hc2, hi2⟩ := hLw' k s hs
      clear hLw hLw' hs hl
      have hsz : g ≤ wr.heap.size := by have := hbr.size; rw [hBg.out]; omega
      go_wp2_with fail
      have C0 : ∀ u : Later g wr, u.val.cell? ⟨b, off + k, none⟩ = some (.slice A1 s.length c1) := fun u => (u.ok.cell (p := ⟨b, _, none⟩) hb).trans c0
      have D0 : ∀ u : Later g wr, u.val.cell? ⟨b', off' + k, none⟩ = some (.slice A2 s.length c2) := fun u => (u.ok.cell (p := ⟨b', _, none⟩) hb').trans d0
      have HC := fun u : Later g wr => eqIntS_same A1 A2 s.length c1 c2 s u.val rfl hsl hc1 hc2 ((hi1.below u.ok).mono (Nat.le_trans hsz u.ok.size)) ((hi2.below u.ok).mono (Nat.le_trans hsz u.ok.size))
      have k0 : (0 : Int) ≤ (k : Int) := by omega
      have k1 : (k : Int) < (n : Int) := by omega
      refine wp_region_sub g (by kernel_rfl) (by kernel_rfl) ?_
      repeat (first | go_big_quiet_step ((go_at_call 45; exact sub_of _ hsz (HC _))) | quiet_step ((go_at_call 45; exact sub_of _ hsz (HC _))))
      refine wpQuiet_nil ?_
      rintro _ ⟨⟨w2, hb2⟩, rfl⟩
      go_wp2_with fail
      go_roundw
      case rel => exact ⟨k + 1, by omega, by go_num, hbr.trans hb2⟩
      case measure => simp [intOf]; omega
    · go_wp2_with fail
      go_ret
      exact ⟨rfl, by rw [← hBg.out]; exact hbr⟩

theorem heldIntSS_any (A : Option Addr) (n c : Nat) (M : List (List Int)) (k0 : Int) (w : World) (hl : M.length = n) (hn : n ≤ 1048576) (ht : tot M ≤ 1048576) (h0 : 0 ≤ k0) (h1 : k0 ≤ 1000000) (hL : RowsAt w w.heap.size A (mkM k0 M)) :
    Calls Try.prog 41 #[.slice A n c, .int .i64 k0] w fun e w' => e = .returned (.int .i64 (k0 + tot M)) ∧ w = w' := by
  go_enter Try.func41, Try.ntmps41
  go_wp2_with fail
  go_loop [1, 5] (fun q i => ∃ k : Nat, k ≤ n ∧ i = .int .i64 k ∧ q = .int .i64 (k0 + tot (M.take k))) (fun _ i => n - (intOf i).toNat)
  case atStart => exact ⟨0, Nat.zero_le _, rfl, by simp [tot]⟩
  case round =>
    obtain ⟨k, hk, rfl, rfl⟩ := hrel
    have hle := tot_take_le M k
    by_cases hlt : k < n
    · obtain ⟨l, hs⟩ : ∃ l, M[k]? = some l := ⟨_, List.getElem?_eq_getElem (by omega)⟩
      obtain ⟨b, off, A1, c1, rfl, hb, d0, hc1, hi⟩ := hL k _ (mkM_get k0 M k l hs)
      rw [upI_len] at d0 hc1
      have hle2 := tot_take_le M (k + 1)
      have hs1 := tot_take_succ M k l hs
      have HS := Lib.hid hs1
      have hln := tot_mem (List.mem_of_getElem? hs)
      obtain ⟨t, htt⟩ : ∃ t, tot (M.take k) = t := ⟨_, rfl⟩
      rw [htt] at hle hi HS ⊢
      rw [hs1, htt] at hle2
      clear hL hs hl hs1 htt
      have h3 : ¬ k0 + (t : Int) + (l.length : Int) < 0 := by omega
      go_wp2_with fail
      refine (heldIntS_any A1 l.length c1 (k0 + t) w (by omega) (by omega) (by omega) hi).mono ?_
      rintro e w' ⟨rfl, rfl⟩
      go_wp2_with fail
      go_round
      case rel => exact ⟨k + 1, by omega, by go_num, by rw [HS.out]; congr 1; omega⟩
      case measure => simp [intOf]; omega
    · obtain rfl : k = n := by omega
      have e1 : M.take k = M := List.take_of_length_le (by omega)
      go_wp2_with fail
      go_ret
      exact ⟨rfl, rfl⟩

/-- What szIntSS returns: -1, or a number of at least 0 and the list is small. -/
def Sized (M : List (List Int)) (w : World) (e : Ending) (w' : World) : Prop := ∃ x : Int, e = .returned (.int .i64 x) ∧ (x = -1 ∨ (0 ≤ x ∧ M.length + tot M ≤ 1048576)) ∧ w = w'
theorem markIntSS_any (A : Option Addr) (n c base : Nat) (R : List Rw) (k0 : Int) (w : World) (hn : n ≤ 1048576) (ht : tot (lists R) ≤ 1048576) (h0 : 0 ≤ k0) (h1 : k0 ≤ 1000000) (ho : OwnSS w base A n c R) :
    Calls Try.prog 40 #[.slice A n c, .int .i64 k0] w fun e w' => e = .returned (.int .i64 (k0 + tot (lists R))) ∧ OwnSS w' base A n c (mkR k0 R) ∧ Kept (Blk A n c R) w w' := by
  have hlen := ho.len
  go_enter Try.func40, Try.ntmps40
  go_wp2_with fail
  go_loopw [1, 5] (fun q i wr => ∃ k : Nat, k ≤ n ∧ i = .int .i64 k ∧ q = .int .i64 (k0 + tot (lists (R.take k))) ∧ OwnSS wr base A n c (mkR k0 (R.take k) ++ R.drop k) ∧ Kept (Blk A n c R) w wr) (fun _ i _ => n - (intOf i).toNat)
  case atStart => exact ⟨0, Nat.zero_le _, rfl, by simp [lists, tot], by simpa [mkR] using ho, Kept.refl _ _⟩
  case round =>
    obtain ⟨k, hk, rfl, rfl, hS, hK⟩ := hrel
    by_cases hlt : k < n
    · have hkR : k < R.length := by omega
      obtain ⟨r, hr⟩ : ∃ r, R[k]? = some r := ⟨_, List.getElem?_eq_getElem hkR⟩
      have e1 : R.drop k = r :: R.drop (k + 1) := by rw [List.drop_eq_getElem_cons hkR, (List.getElem?_eq_some_iff.1 hr).2]
      have e2 : R.take (k + 1) = R.take k ++ [r] := by rw [List.take_add_one, hr]; rfl
      have hle := tot_take_le (lists R) (k + 1)
      have e3 : tot (lists (R.take (k + 1))) = tot (lists (R.take k)) + r.L.length := by rw [e2, lists_app, tot_app]; simp [lists, tot]
      have e4 : lists (R.take (k + 1)) = (lists R).take (k + 1) := by simp [lists, List.map_take]
      rw [← e4, e3] at hle
      rw [e1] at hS
      have hrow := hS.inner.own r (by simp)
      have hlk : (mkR k0 (R.take k)).length = k := by rw [mkR_len, List.length_take]; omega
      obtain ⟨g, rfl⟩ := own_form hS.outer (by omega)
      have hcell : wr.cell? ⟨g, k, none⟩ = some (.slice r.A r.L.length r.c) := by
        rw [hS.outer.cellAt k (by omega), vals_app]
        rw [List.getElem?_append_right (by rw [vals_len, hlk]; exact Nat.le_refl _), vals_len, hlk, Nat.sub_self]
        rfl
      have hbk : ∀ kk, r.val.ownBlock = some kk → Blk (some ⟨g, 0, none⟩) n c R kk := fun kk hkk => .inr ⟨r, List.mem_of_getElem? hr, hkk⟩
      have H2 := Lib.hid e2
      have H3 := Lib.hid e3
      obtain ⟨t, htt⟩ : ∃ t, tot (lists (R.take k)) = t := ⟨_, rfl⟩
      rw [htt] at hle H3 ⊢
      have HT := Lib.hid htt
      clear e1 e2 e3 e4 hr ho hlk hlen htt
      go_wp2_with fail
      refine (markIntS_any r.A r.L.length r.c base _ (k0 + t) wr (by omega) (by omega) (by omega) hrow).mono ?_
      rintro e w2 ⟨rfl, ho2, hg2⟩
      have hS2 := hS.marked (k0 := k0 + t) hg2 ho2
      have hK2 := hK.step hg2 hbk
      clear hS hrow hcell hg2 ho2
      go_wp2_with fail
      go_roundw
      case rel => exact ⟨k + 1, by omega, by go_num, by rw [H3.out]; congr 1; omega, by rw [H2.out, mkR_snoc, HT.out, List.append_assoc]; exact hS2, hK2⟩
      case measure => simp [intOf]; omega
    · obtain rfl : k = n := by omega
      have e1 : R.take k = R := List.take_of_length_le (by omega)
      have e2 : R.drop k = [] := List.drop_of_length_le (by omega)
      rw [e1, e2, List.append_nil] at hS
      have HE := Lib.hid e1
      clear e1 e2
      go_wp2_with fail
      go_ret
      exact ⟨ret_int (by rw [HE.out]), hS, hK⟩
end Go.Proofs.Ytdpbjmdgjhleeaa
