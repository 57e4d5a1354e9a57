/- Whether a hidden cut fits a clue: the model. -/
import Derived.Test.YtpbghalljfcaoaaPzK
set_option linter.all false
namespace Go.Proofs.Ytpbghalljfcaoaa
open Go.RowKit

set_option maxRecDepth 100000 in
set_option maxHeartbeats 4000000 in
theorem specFit_any (s : Sq) (W H : Int) (A : Option Addr) (n c : Nat) (L : List Sq) (w : World) (hl : L.length = n) (hc : n ≤ c) (hL : SqsAt w w.heap.size A L) :
    Calls Try.prog 18 #[.agg #[.int .i64 s.x, .int .i64 s.y, .int .i64 s.d], .agg #[.int .i64 W, .int .i64 H, .slice A n c]] w (RetFit w W H L s) := by
  subst hl
  have B0 : Below w.heap.size w ((w.alloc (.cells #[.int .i64 s.x, .int .i64 s.y, .int .i64 s.d] 25)).alloc (.cells #[.int .i64 W, .int .i64 H, .slice A L.length c] 47)) := ((Below.refl _ _).alloc (Nat.le_refl _) _).alloc (by simp) _
  have K0 := (Cv3.start w (.int .i64 s.x) (.int .i64 s.y) (.int .i64 s.d) 25).next ((Below.refl _ _).alloc (Nat.le_refl _) (.cells #[.int .i64 W, .int .i64 H, .slice A L.length c] 47))
  have J0 := Cv3.start (w.alloc (.cells #[.int .i64 s.x, .int .i64 s.y, .int .i64 s.d] 25)) (.int .i64 W) (.int .i64 H) (.slice A L.length c) 47
  rw [World.size_alloc] at J0
  by_cases hH : Good W H L ∧ okP W H = true
  · have hC := fun w' => pzClue_any W H (by have := okP_size hH.2; omega) s w'
    by_cases hK : ClueOk (W * H) s
    · have hD : DoF W H L s := ⟨hH, hK⟩
      go_enter Try.func18, Try.ntmps18
      go_wp2_with fail
      obtain ⟨W0, hW0⟩ : ∃ W0, W0 = (w.alloc (.cells #[.int .i64 s.x, .int .i64 s.y, .int .i64 s.d] 25)).alloc (.cells #[.int .i64 W, .int .i64 H, .slice A L.length c] 47) := ⟨_, rfl⟩
      rw [← hW0] at B0 K0 J0 ⊢
      clear hW0
      refine (callB_yes (pzHidden_any W H A L.length c L _ rfl hc ((hL.below B0).mono B0.size)) hH).mono ?_
      rintro e w1 ⟨rfl, hb⟩
      replace K0 := K0.next hb
      replace J0 := J0.next hb
      replace B0 := B0.trans (hb.mono B0.size)
      clear hb
      obtain ⟨kl, k0, k1, k2⟩ := id K0
      obtain ⟨jl, j0, j1, j2⟩ := id J0
      go_wp2_with fail
      clear kl k0 k1 k2 jl j0 j1 j2
      refine (callB_yes (hC _) hK).mono ?_
      rintro e w2 ⟨rfl, hb⟩
      replace K0 := K0.next hb
      replace J0 := J0.next hb
      replace B0 := B0.trans (hb.mono B0.size)
      clear hb
      obtain ⟨kl, k0, k1, k2⟩ := id K0
      obtain ⟨jl, j0, j1, j2⟩ := id J0
      go_wp2_with fail
      clear kl k0 k1 k2 jl j0 j1 j2
      refine (pzFits_any s W H A L.length c L w2 rfl hc ((hL.below B0).mono B0.size) hH.1 hK.ask).mono ?_
      rintro e w3 ⟨rfl, hb⟩
      go_wp2_with fail
      go_ret2
      exact RetFit.yes hD (B0.trans (hb.mono B0.size)) rfl
    · have hD : ¬ DoF W H L s := fun h => hK h.2
      go_enter Try.func18, Try.ntmps18
      go_wp2_with fail
      obtain ⟨W0, hW0⟩ : ∃ W0, W0 = (w.alloc (.cells #[.int .i64 s.x, .int .i64 s.y, .int .i64 s.d] 25)).alloc (.cells #[.int .i64 W, .int .i64 H, .slice A L.length c] 47) := ⟨_, rfl⟩
      rw [← hW0] at B0 K0 J0 ⊢
      clear hW0
      refine (callB_yes (pzHidden_any W H A L.length c L _ rfl hc ((hL.below B0).mono B0.size)) hH).mono ?_
      rintro e w1 ⟨rfl, hb⟩
      replace K0 := K0.next hb
      replace J0 := J0.next hb
      replace B0 := B0.trans (hb.mono B0.size)
      clear hb
      obtain ⟨kl, k0, k1, k2⟩ := id K0
      obtain ⟨jl, j0, j1, j2⟩ := id J0
      go_wp2_with fail
      clear kl k0 k1 k2 jl j0 j1 j2
      refine (callB_no (hC _) hK).mono ?_
      rintro e w2 ⟨rfl, hb⟩
      go_wp2_with fail
      go_ret2
      exact RetFit.no hD (B0.trans (hb.mono B0.size))
  · have hD : ¬ DoF W H L s := fun h => hH h.1
    go_enter Try.func18, Try.ntmps18
    go_wp2_with fail
    obtain ⟨W0, hW0⟩ : ∃ W0, W0 = (w.alloc (.cells #[.int .i64 s.x, .int .i64 s.y, .int .i64 s.d] 25)).alloc (.cells #[.int .i64 W, .int .i64 H, .slice A L.length c] 47) := ⟨_, rfl⟩
    rw [← hW0] at B0 K0 J0 ⊢
    clear hW0
    refine (callB_no (pzHidden_any W H A L.length c L _ rfl hc ((hL.below B0).mono B0.size)) hH).mono ?_
    rintro e w1 ⟨rfl, hb⟩
    go_wp2_with fail
    go_ret2
    exact RetFit.no hD (B0.trans (hb.mono B0.size))
end Go.Proofs.Ytpbghalljfcaoaa
