/- Contracts of OneSquare, the program's and the model's. -/
import Derived.Test.YtilneimiedfjnaaGen
set_option linter.all false
namespace Go.Proofs.Ytilneimiedfjnaa
open Go.RowKit

def InD (d : Int) : Prop := 1 ≤ d ∧ d ≤ 500
noncomputable def oneW (d : Int) : Int := if dc (1 ≤ d ∧ d ≤ 500) then d else 0
noncomputable def oneL (d : Int) : List Sq := if dc (1 ≤ d ∧ d ≤ 500) then [⟨0, 0, d⟩] else []
theorem oneW_yes {d : Int} (h : 1 ≤ d ∧ d ≤ 500) : oneW d = d := by simp [oneW, dc_true h]
theorem oneW_no {d : Int} (h : ¬ (1 ≤ d ∧ d ≤ 500)) : oneW d = 0 := by simp [oneW, dc_false h]
theorem oneL_yes {d : Int} (h : 1 ≤ d ∧ d ≤ 500) : oneL d = [⟨0, 0, d⟩] := by simp [oneL, dc_true h]
theorem oneL_no {d : Int} (h : ¬ (1 ≤ d ∧ d ≤ 500)) : oneL d = [] := by simp [oneL, dc_false h]
def RetOne (w : World) (d : Int) (e : Ending) (w' : World) : Prop := RetCut w (oneW d) (oneW d) (oneL d) (dc (1 ≤ d ∧ d ≤ 500)) e w'

end Go.Proofs.Ytilneimiedfjnaa
