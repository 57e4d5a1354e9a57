/- Contracts of OneSquare, the program's and the model's. -/
import Derived.Test.YtbkfenhiaedlgaaDoorGen
set_option linter.all false
namespace Go.Proofs.YtbkfenhiaedlgaaDoor
open Go.RowKit

def InD (d : Int) : Prop := 1 ≤ d ∧ d ≤ 500
noncomputable def oneW (d : Int) : Int := if dc (1 ≤ d ∧ d ≤ 500) then d else 0
noncomputable def oneL (d : Int) : List Sq := if dc (1 ≤ d ∧ d ≤ 500) then [⟨0, 0, d⟩] else []
theorem oneW_yes {d : Int} (h : 1 ≤ d ∧ d ≤ 500) : oneW d = d := by simp [oneW, dc_true h]
theorem oneW_no {d : Int} (h : ¬ (1 ≤ d ∧ d ≤ 500)) : oneW d = 0 := by simp [oneW, dc_false h]
theorem oneL_yes {d : Int} (h : 1 ≤ d ∧ d ≤ 500) : oneL d = [⟨0, 0, d⟩] := by simp [oneL, dc_true h]
theorem oneL_no {d : Int} (h : ¬ (1 ≤ d ∧ d ≤ 500)) : oneL d = [] := by simp [oneL, dc_false h]
def RetOne (w : World) (d : Int) (e : Ending) (w' : World) : Prop := RetCut w (oneW d) (oneW d) (oneL d) (dc (1 ≤ d ∧ d ≤ 500)) e w'

theorem implOne_any (d : Int) (w : World) :
    Calls Tryd.prog 92 #[.int .i64 d] w (RetOne w d) := by
  by_cases h : 1 ≤ d ∧ d ≤ 500
  · have hd := Lib.hid (inB_iff.2 h)
    unfold RetOne
    rw [oneW_yes h, oneL_yes h, dc_true h]
    go_enter Tryd.func92, Tryd.ntmps92
    go_wp2_with fail
    refine (isLength_any _ _).mono ?_
    rw [hd.out]
    rintro e w' ⟨rfl, rfl⟩
    go_wp2_with fail
    refine bodyPost_ret (v := .tuple #[.agg #[.int .i64 d, .int .i64 d, .slice (some ⟨w.heap.size + 1, 0, none⟩) 1 1], .bool true]) (by simp [results, Tryd.results92, go_sem]) rfl ?_
    refine RetCut.mk rfl ?_ ?_
    · have := World.ownsRow_lit (base := w.heap.size) (e := 85) (size := 3) (w.alloc (.cells #[.int .i64 d, .int .i64 d, .slice (some ⟨w.heap.size + 1, 0, none⟩) 1 1] 30)) #[.int .i64 0, .int .i64 0, .int .i64 d] 1 (by simp) (by decide) rfl
      simpa [flat] using this
    · exact ((Below.refl _ _).alloc (Nat.le_refl _) _).alloc (by simp) _
  · have hd : Hid (inB d 1 500 = false) := by show inB _ _ _ = false; simp [inB]; omega
    unfold RetOne
    rw [oneW_no h, oneL_no h, dc_false h]
    go_enter Tryd.func92, Tryd.ntmps92
    go_wp2_with fail
    refine (isLength_any _ _).mono ?_
    rw [hd.out]
    rintro e w' ⟨rfl, rfl⟩
    go_wp2_with fail
    refine bodyPost_ret (v := .tuple #[.agg #[.int .i64 0, .int .i64 0, .slice none 0 0], .bool false]) (by simp [results, Tryd.results92, go_sem]) rfl ?_
    exact RetCut.mk rfl (World.ownsRow_nil _ _ _ _) ((Below.refl _ _).alloc (Nat.le_refl _) _)

end Go.Proofs.YtbkfenhiaedlgaaDoor
