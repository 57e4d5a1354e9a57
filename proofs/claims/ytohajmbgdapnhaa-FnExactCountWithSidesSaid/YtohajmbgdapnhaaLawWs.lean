/- The walk of FnExactCountWithSides. -/
import Derived.Test.YtohajmbgdapnhaaGen
import Derived.Test.YtohajmbgdapnhaaNumL
import Derived.Test.YtohajmbgdapnhaaWst
set_option linter.all false
namespace Go.Proofs.Ytohajmbgdapnhaa
open Go.RowKit

set_option maxRecDepth 100000 in
set_option maxHeartbeats 4000000 in
theorem lawWs (P Q : Int) (A : Option Addr) (n c : Nat) (L : List Int) (w : World) (hl : L.length = n) (hc : n ≤ c) (hn : n ≤ 1048576) (hL : IntsAt w w.heap.size A L) (hwf : ∀ s ∈ L, wfI s) :
    Calls Try.prog 6 #[.int .i64 P, .int .i64 Q, .slice A n c] w fun e w' => e = .returned (.bool true) ∧ Below w.heap.size w w' := by
  subst hl
  have hspec := fun A n c w (h1 : L.length = n) (h2 : IntsAt w w.heap.size A L) => specWs_any P Q A n c L w h1 (by omega) h2
  have himpl := fun A n c w (h1 : L.length = n) (h2 : IntsAt w w.heap.size A L) => implWs_any P Q A n c L w h1 (by omega) h2
  unfold RetWs at hspec himpl
  obtain ⟨X, hX⟩ : ∃ X, wsV P Q L = X := ⟨_, rfl⟩
  obtain ⟨ok, hK⟩ : ∃ ok, (okL P Q && okD L) = ok := ⟨_, rfl⟩
  simp only [hX, hK] at hspec himpl
  have HS := Lib.hid hspec
  have HI := Lib.hid himpl
  clear hspec himpl hX hK
  have h1 : (ok != ok) = false := by simp
  have h2 : (X != X) = false := by simp
  have h' : decide ((1048576 : Int) < (L.length : Int)) = false := by rw [decide_eq_false_iff_not]; omega
  have hN' : decide (1048576 < L.length) = false := by rw [decide_eq_false_iff_not]; omega
  go_enter Try.func6, Try.ntmps6
  go_wp2_with fail
  refine (toIntS_any A L.length c L w rfl hn hL).mono ?_
  rintro e w2 ⟨g2, rfl, hb2, ho2⟩
  go_wp2_with fail
  (with_reducible refine (HS.out _ _ _ _ rfl (ints_of_own ho2)).mono ?_)
  rintro e w3 ⟨rfl, hb3⟩
  have hB3 := hb2.trans (hb3.mono hb2.size)
  clear hb2 hb3 ho2
  go_wp2_with fail
  refine (toIntS_any A L.length c L w3 rfl hn ((hL.below hB3).mono hB3.size)).mono ?_
  rintro e w4 ⟨g4, rfl, hb4, ho4⟩
  have hB4 := hB3.trans (hb4.mono hB3.size)
  clear hb4 hB3
  go_wp2_with fail
  (with_reducible refine (HI.out _ _ _ _ rfl (ints_of_own ho4)).mono ?_)
  rintro e w6 ⟨rfl, hb6⟩
  have ox := own_keep ho4 hb6
  have hB6 := hB4.trans (hb6.mono hB4.size)
  clear hB4 hb6 ho4
  go_wp2_with fail
  refine (toIntS_any A L.length c L w6 rfl hn ((hL.below hB6).mono hB6.size)).mono ?_
  rintro e w8 ⟨g8, rfl, hb8, ho8⟩
  have ox := own_keep ox hb8
  have hB8 := hB6.trans (hb8.mono hB6.size)
  clear hB6 hb8
  go_wp2_with fail
  refine (eqIntS_same _ _ L.length _ _ L w8 rfl hn (own_cap ox) (own_cap ho8) (ints_of_own ox) (ints_of_own ho8)).mono ?_
  rintro e w9 ⟨rfl, hb9⟩
  have hB9 := hB8.trans (hb9.mono hB8.size)
  clear hB8 hb9 ho8
  go_wp2_with fail
  go_ret
  exact ⟨rfl, hB9⟩
theorem lawWs_over (P Q : Int) (A : Option Addr) (n c : Nat) (w : World) (h : 1048576 < n) :
    Calls Try.prog 6 #[.int .i64 P, .int .i64 Q, .slice A n c] w fun e w' => e = .returned (.bool true) ∧ Below w.heap.size w w' := by
  have h' : decide ((1048576 : Int) < (n : Int)) = true := by rw [decide_eq_true_iff]; omega
  go_enter Try.func6, Try.ntmps6
  go_wp2_with fail
  go_ret
  exact ⟨rfl, Below.refl _ _⟩
end Go.Proofs.Ytohajmbgdapnhaa
