/- Sizes of hidden cuts. -/
import Derived.Test.YtbkfenhiaedlgaaDoorCz
set_option linter.all false
namespace Go.Proofs.YtbkfenhiaedlgaaDoor
open Go.RowKit

def okP (W H : Int) : Bool := okF W H && decide (W * H ≤ 12)
theorem okP_iff {W H : Int} : okP W H = true ↔ ((1 ≤ W ∧ W ≤ 6) ∧ 1 ≤ H ∧ H ≤ 6) ∧ W * H ≤ 12 := by
  unfold okP; rw [Bool.and_eq_true, okF_iff, decide_eq_true_iff]
theorem okP_size {W H : Int} (h : okP W H = true) : 1 ≤ W * H ∧ W * H ≤ 12 := by
  have h' := okP_iff.1 h
  exact ⟨(mul_bound (by omega) (by omega) (by omega) (by omega)).1, h'.2⟩
theorem hidSize_any (W H : Int) (w : World) : Calls Tryd.prog 135 #[.int .i64 W, .int .i64 H] w fun e w' => e = .returned (.bool (okP W H)) ∧ w = w' := by
  have ha := areUpTo_any 6 W H w
  cases hok : okF W H with
  | false =>
    rw [show (inB W 1 6 && inB H 1 6) = false from hok] at ha
    unfold okP
    rw [hok]
    go_enter Tryd.func135, Tryd.ntmps135
    go_wp2_with fail
    refine ha.mono ?_
    rintro e w' ⟨rfl, rfl⟩
    go_wp2_with fail
    go_ret
    exact ⟨rfl, rfl⟩
  | true =>
    rw [show (inB W 1 6 && inB H 1 6) = true from hok] at ha
    have h := okF_iff.1 hok
    unfold okP
    rw [hok]
    obtain ⟨p, hp⟩ : ∃ p, W * H = p := ⟨_, rfl⟩
    have h36 := mul_bound (a := W) (b := H) (by omega) (by omega) (by omega) (by omega)
    rw [hp] at h36 ⊢
    have wa : IntKind.i64.wrap (W * H) = p := by rw [hp]; exact IntWalk.i64_in _ (by omega)
    clear hp hok
    go_enter Tryd.func135, Tryd.ntmps135
    go_wp2_with fail
    refine ha.mono ?_
    rintro e w' ⟨rfl, rfl⟩
    go_wp2_with fail
    go_ret
    exact ⟨ret_bool (by rw [Bool.eq_iff_iff]; simp; try omega), rfl⟩
theorem pzSize_any (W H : Int) (w : World) : Calls Tryd.prog 132 #[.int .i64 W, .int .i64 H] w fun e w' => e = .returned (.bool (okP W H)) ∧ w = w' := by
  have ha := ctSize_any W H w
  cases hok : okF W H with
  | false =>
    rw [show (okF W H) = false from hok] at ha
    unfold okP
    rw [hok]
    go_enter Tryd.func132, Tryd.ntmps132
    go_wp2_with fail
    refine ha.mono ?_
    rintro e w' ⟨rfl, rfl⟩
    go_wp2_with fail
    go_ret
    exact ⟨rfl, rfl⟩
  | true =>
    rw [show (okF W H) = true from hok] at ha
    have h := okF_iff.1 hok
    unfold okP
    rw [hok]
    obtain ⟨p, hp⟩ : ∃ p, W * H = p := ⟨_, rfl⟩
    have h36 := mul_bound (a := W) (b := H) (by omega) (by omega) (by omega) (by omega)
    rw [hp] at h36 ⊢
    have wa : IntKind.i64.wrap (W * H) = p := by rw [hp]; exact IntWalk.i64_in _ (by omega)
    clear hp hok
    go_enter Tryd.func132, Tryd.ntmps132
    go_wp2_with fail
    refine ha.mono ?_
    rintro e w' ⟨rfl, rfl⟩
    go_wp2_with fail
    go_ret
    exact ⟨ret_bool (by rw [Bool.eq_iff_iff]; simp; try omega), rfl⟩
end Go.Proofs.YtbkfenhiaedlgaaDoor
