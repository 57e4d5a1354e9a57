/- The walk of FnExactCodeText. -/
import Derived.Test.YtbkfenhiaedlgaaDoorGen
import Derived.Test.YtbkfenhiaedlgaaDoorCdT
set_option linter.all false
namespace Go.Proofs.YtbkfenhiaedlgaaDoor
open Go.RowKit

set_option maxRecDepth 100000 in
set_option maxHeartbeats 4000000 in
theorem lawCodeText (A : Option Addr) (n c : Nat) (M : List (List Int)) (w : World) (hl : M.length = n) (hnn : n ≤ 9223372036854775807) (hmm : ∀ l ∈ M, l.length ≤ 9223372036854775807) (hL : RowsAt w w.heap.size A M) (hwf : ∀ l ∈ M, ∀ s ∈ l, wfI s) (hT : TabOk w) :
    Calls Tryd.prog 5 #[.slice A n c] w fun e w' => e = .returned (.bool true) ∧ Below w.heap.size w w' := by
  subst hl
  obtain ⟨T, hTT⟩ : ∃ T, bas (cdV M) = T := ⟨_, rfl⟩
  obtain ⟨ok, hok⟩ : ∃ ok, (codeR M).2.2.2 = ok := ⟨_, rfl⟩
  have k2 : (ok != ok) = false := by simp
  have HTT := Lib.hid hTT
  have HOK := Lib.hid hok
  clear hTT hok
  go_enter Tryd.func5, Tryd.ntmps5
  go_wp2_with fail
  refine (szIntSS_any A M.length c M w rfl hnn hmm hL).mono ?_
  rintro e w1 ⟨sz, rfl, hsz, rfl⟩
  rcases hsz with rfl | ⟨hs0, hs1⟩
  · go_wp2_with fail
    go_ret
    exact ⟨rfl, Below.refl _ _⟩
  have hs0' : ¬ sz < 0 := by omega
  have hn : M.length ≤ 1048576 := by omega
  have hm : ∀ l ∈ M, l.length ≤ 1048576 := fun l hl => by have := tot_mem hl; omega
  have ht : tot M ≤ 1048576 := by omega
  clear hnn hmm hs1
  go_wp2_with fail
  refine (toIntSS_any A M.length c M w rfl hn hm hL).mono ?_
  rintro e w2 ⟨g2, R2, rfl, hR2, ho2, hb2⟩
  go_wp2_with fail
  refine (specCd_any _ _ _ M _ rfl hn (by have := ho2.rowsZ; rwa [hR2] at this)).mono ?_
  rintro e w3 ⟨rfl, hb3⟩
  rw [HTT.out, HOK.out]
  have hB3 := hb2.trans (hb3.mono hb2.size)
  clear hb2 hb3 ho2
  go_wp2_with fail
  refine (toIntSS_any A M.length c M w3 rfl hn hm ((hL.below hB3).mono hB3.size)).mono ?_
  rintro e w4 ⟨g4, R4, rfl, hR4, ho4, hb4⟩
  have hB4 := hB3.trans (hb4.mono hB3.size)
  clear hb4 hB3
  go_wp2_with fail
  refine (implCd_any _ _ _ M _ rfl hn (by have := ho4.rowsZ; rwa [hR4] at this) hwf (hT.below hB4)).mono ?_
  rintro e w6 ⟨rfl, hb6⟩
  rw [HTT.out, HOK.out]
  have ox := ho4.keep hb6
  have hB6 := hB4.trans (hb6.mono hB4.size)
  clear hB4 hb6 ho4
  go_wp2_with fail
  refine (toIntSS_any A M.length c M w6 rfl hn hm ((hL.below hB6).mono hB6.size)).mono ?_
  rintro e w8 ⟨g8, R8, rfl, hR8, ho8, hb8⟩
  have ox := ox.keep hb8
  have hB8 := hB6.trans (hb8.mono hB6.size)
  clear hB6 hb8
  go_wp2_with fail
  refine (eqIntSS_same _ _ M.length _ _ M w8 rfl hn hm ox.cap ho8.cap (by have := ox.rows; rwa [hR4] at this) (by have := ho8.rows; rwa [hR8] at this)).mono ?_
  rintro e w9 ⟨rfl, hb9⟩
  have hB9 := hB8.trans (hb9.mono hB8.size)
  go_wp2_with fail
  go_ret
  exact ⟨rfl, hB9⟩
end Go.Proofs.YtbkfenhiaedlgaaDoor
