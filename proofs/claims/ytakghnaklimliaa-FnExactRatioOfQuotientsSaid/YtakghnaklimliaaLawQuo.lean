/- The walk of FnExactRatioOfQuotients. -/
import Derived.Test.YtakghnaklimliaaBack
import Derived.Test.YtakghnaklimliaaQuoS
namespace Go.Proofs.Ytakghnaklimliaa
open Go.RowKit

set_option maxRecDepth 100000 in
set_option maxHeartbeats 4000000 in
theorem lawQuo (A : Option Addr) (n c : Nat) (L : List Int) (w : World) (hl : L.length = n) (hn : n ≤ 1048576) (hL : IntsAt w w.heap.size A L) (hwf : ∀ s ∈ L, wfI s) :
    Calls Try.prog 5 #[.slice A n c] w fun e w' => e = .returned (.bool true) ∧ Below w.heap.size w w' := by
  subst hl
  obtain ⟨P, hP⟩ : ∃ P, (quoR L).1 = P := ⟨_, rfl⟩
  obtain ⟨Q, hQ⟩ : ∃ Q, (quoR L).2.1 = Q := ⟨_, rfl⟩
  obtain ⟨ok, hK⟩ : ∃ ok, (quoR L).2.2 = ok := ⟨_, rfl⟩
  have HP := Lib.hid hP
  have HQ := Lib.hid hQ
  have HK := Lib.hid hK
  clear hP hQ hK
  have h' : ¬ (1048576 : Int) < (L.length : Int) := by omega
  have h1 : (ok != ok) = false := by simp
  go_enter Try.func5, Try.ntmps5
  go_wp2_with fail
  refine (toIntS_any A L.length c L w rfl hn hL).mono ?_
  rintro e w1 ⟨g1, rfl, hb1, ho1⟩
  go_wp2_with fail
  refine (specQuo_any _ _ _ L _ rfl hn (ints_of_own ho1)).mono ?_
  rintro e w2 hret
  unfold RetQ at hret
  rw [HP.out, HQ.out, HK.out] at hret
  obtain ⟨rfl, hb2⟩ := hret
  have hB2 := hb1.trans (hb2.mono hb1.size)
  clear hb1 hb2 ho1
  go_wp2_with fail
  refine (toIntS_any A L.length c L w2 rfl hn ((hL.below hB2).mono hB2.size)).mono ?_
  rintro e w3 ⟨g3, rfl, hb3, ho3⟩
  have hB3 := hB2.trans (hb3.mono hB2.size)
  clear hb3 hB2
  go_wp2_with fail
  refine (implQuo_any _ _ _ L _ rfl hn (ints_of_own ho3) hwf).mono ?_
  rintro e w4 hret
  unfold RetQ at hret
  rw [HP.out, HQ.out, HK.out] at hret
  obtain ⟨rfl, hb4⟩ := hret
  have oi := own_keep ho3 hb4
  have hB4 := hB3.trans (hb4.mono hB3.size)
  clear hb4 hB3 ho3
  go_wp2_with fail
  refine (toIntS_any A L.length c L w4 rfl hn ((hL.below hB4).mono hB4.size)).mono ?_
  rintro e w5 ⟨g5, rfl, hb5, oj⟩
  have oi := own_keep oi hb5
  have hB5 := hB4.trans (hb5.mono hB4.size)
  clear hb5 hB4
  go_wp2_with fail
  refine (eqIntS_same _ _ L.length _ _ L w5 rfl hn (own_cap oi) (own_cap oj) (ints_of_own oi) (ints_of_own oj)).mono ?_
  rintro e w6 ⟨rfl, hb6⟩
  have hB6 := hB5.trans (hb6.mono hB5.size)
  go_wp2_with fail
  go_ret
  exact ⟨rfl, hB6⟩

theorem lawQuo_over (A : Option Addr) (n c : Nat) (w : World) (h : 1048576 < n) :
    Calls Try.prog 5 #[.slice A n c] w fun e w' => e = .returned (.bool true) ∧ Below w.heap.size w w' := by
  have h' : (1048576 : Int) < (n : Int) := by omega
  go_enter Try.func5, Try.ntmps5
  go_wp2_with fail
  go_ret
  exact ⟨rfl, Below.refl _ _⟩
end Go.Proofs.Ytakghnaklimliaa
