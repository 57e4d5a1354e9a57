/- The walk of FnExactIsClue. -/
import Derived.Test.YtpbghalljfcaoaaPzD
set_option linter.all false
namespace Go.Proofs.Ytpbghalljfcaoaa
open Go.RowKit

theorem lawIsClue (W H : Int) (c : Sq) (w : World) :
    Calls Try.prog 3 #[.int .i64 W, .int .i64 H, .agg #[.int .i64 c.x, .int .i64 c.y, .int .i64 c.d]] w fun e w' => e = .returned (.bool true) ∧ Below w.heap.size w w' := by
  have B0 : Below w.heap.size w (w.alloc (.cells #[.int .i64 c.x, .int .i64 c.y, .int .i64 c.d] 23)) := (Below.refl _ _).alloc (Nat.le_refl _) _
  have K0 := Cv3.start w (.int .i64 c.x) (.int .i64 c.y) (.int .i64 c.d) 23
  have C0 := fun w' => toClue_any c.x c.y c.d w'
  have C1 := fun w' => specIsClue_any W H c w'
  have C2 := fun w' => implIsClue_any W H c w'
  unfold RetB at C1 C2
  generalize dc (okP W H = true ∧ ClueOk (W * H) c) = r at C1 C2
  obtain ⟨kl, k0, k1, k2⟩ := id K0
  go_enter Try.func3, Try.ntmps3
  go_wp2_with fail
  clear kl k0 k1 k2
  refine (C0 _).mono ?_
  rintro e w1 ⟨rfl, hb1⟩
  replace K0 := K0.next hb1
  replace B0 := B0.trans (hb1.mono B0.size)
  clear hb1
  go_wp2_with fail
  refine (C1 _).mono ?_
  rintro e w2 ⟨rfl, hb1⟩
  replace K0 := K0.next hb1
  replace B0 := B0.trans (hb1.mono B0.size)
  clear hb1
  obtain ⟨kl, k0, k1, k2⟩ := id K0
  go_wp2_with fail
  clear kl k0 k1 k2
  refine (C0 _).mono ?_
  rintro e w3 ⟨rfl, hb1⟩
  replace B0 := B0.trans (hb1.mono B0.size)
  clear hb1
  go_wp2_with fail
  refine (C2 _).mono ?_
  rintro e w4 ⟨rfl, hb1⟩
  replace B0 := B0.trans (hb1.mono B0.size)
  clear hb1
  have hr : (r != r) = false := by simp
  go_wp2_with fail
  go_ret
  exact ⟨rfl, B0⟩
end Go.Proofs.Ytpbghalljfcaoaa
