/- The walk of FnExactWidthOfCode. -/
import Derived.Test.YtmjdmedlkcmgiaaGen
import Derived.Test.YtmjdmedlkcmgiaaCodeV
import Derived.Test.YtmjdmedlkcmgiaaSSL
set_option linter.all false
namespace Go.Proofs.Ytmjdmedlkcmgiaa
open Go.RowKit

set_option maxRecDepth 100000 in
set_option maxHeartbeats 4000000 in
theorem lawWidth (A : Option Addr) (n c : Nat) (M : List (List Int)) (w : World) (hl : M.length = n) (hnn : n ≤ 9223372036854775807) (hmm : ∀ l ∈ M, l.length ≤ 9223372036854775807) (hL : RowsAt w w.heap.size A M) (hwf : ∀ l ∈ M, ∀ s ∈ l, wfI s) :
    Calls Try.prog 10 #[.slice A n c] w fun e w' => e = .returned (.bool true) ∧ Below w.heap.size w w' := by
  subst hl
  have hRn := codeR_len M
  obtain ⟨X, hX⟩ : ∃ X, (codeR M).1 = X := ⟨_, rfl⟩
  obtain ⟨Y, hY⟩ : ∃ Y, (codeR M).2.1 = Y := ⟨_, rfl⟩
  obtain ⟨R, hR⟩ : ∃ R, (codeR M).2.2.1 = R := ⟨_, rfl⟩
  obtain ⟨ok, hK⟩ : ∃ ok, (codeR M).2.2.2 = ok := ⟨_, rfl⟩
  rw [hR] at hRn
  have HR := Lib.hid hR
  have HX := Lib.hid hX
  have HY := Lib.hid hY
  have HK := Lib.hid hK
  clear hR hX hY hK
  have h2x : (X != X) = false := by simp
  have h3x : (Y != Y) = false := by simp
  have h4x : ((R.length : Int) != (R.length : Int)) = false := by simp
  have h1 : (ok != ok) = false := by simp
  go_enter Try.func10, Try.ntmps10
  go_wp2_with fail
  refine (szIntSS_any A M.length c M w rfl hnn hmm hL).mono ?_
  rintro e w1 ⟨sz, rfl, hsz, rfl⟩
  rcases hsz with rfl | ⟨hs0, hs1⟩
  · go_wp2_with fail
    go_ret
    exact ⟨rfl, Below.refl _ _⟩
  have hs0' : ¬ sz < 0 := by omega
  have hn : M.length ≤ 1048576 := by omega
  have hm : ∀ l ∈ M, l.length ≤ 1048576 := fun l hl => by have := tot_mem hl; omega
  have ht : tot M ≤ 1048576 := by omega
  clear hnn hmm hs1
  go_wp2_with fail
  refine (toIntSS_any A M.length c M w rfl hn hm hL).mono ?_
  rintro e w2 ⟨g2, R2, rfl, hR2, ho2, hb2⟩
  go_wp2_with fail
  refine (specWidth_any _ _ _ M X Y R ok _ rfl hn (by have := ho2.rowsZ; rwa [hR2] at this) HX.out HY.out HR.out HK.out).mono ?_
  rintro e w3 ⟨rfl, hb3⟩
  have hB3 := hb2.trans (hb3.mono hb2.size)
  clear hb2 hb3 ho2
  go_wp2_with fail
  refine (toIntSS_any A M.length c M w3 rfl hn hm ((hL.below hB3).mono hB3.size)).mono ?_
  rintro e w4 ⟨g4, R4, rfl, hR4, ho4, hb4⟩
  have hB4 := hB3.trans (hb4.mono hB3.size)
  clear hb4 hB3
  go_wp2_with fail
  refine (implWidth_any _ _ _ M X Y R ok _ rfl hn (by have := ho4.rowsZ; rwa [hR4] at this) hwf HX.out HY.out HR.out HK.out).mono ?_
  rintro e w6 ⟨rfl, hb6⟩
  have ox := ho4.keep hb6
  have hB6 := hB4.trans (hb6.mono hB4.size)
  clear hB4 hb6 ho4
  go_wp2_with fail
  refine (toIntSS_any A M.length c M w6 rfl hn hm ((hL.below hB6).mono hB6.size)).mono ?_
  rintro e w8 ⟨g8, R8, rfl, hR8, ho8, hb8⟩
  have ox := ox.keep hb8
  have hB8 := hB6.trans (hb8.mono hB6.size)
  clear hB6 hb8
  go_wp2_with fail
  refine (eqIntSS_same _ _ M.length _ _ M w8 rfl hn hm ox.cap ho8.cap (by have := ox.rows; rwa [hR4] at this) (by have := ho8.rows; rwa [hR8] at this)).mono ?_
  rintro e w9 ⟨rfl, hb9⟩
  have hB9 := hB8.trans (hb9.mono hB8.size)
  go_wp2_with fail
  go_ret
  exact ⟨rfl, hB9⟩
end Go.Proofs.Ytmjdmedlkcmgiaa
