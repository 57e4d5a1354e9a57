/- Contracts of the program's TurnCut and MirrorCut. -/
import Derived.Test.YtebnekicbcdnaaaTurnI
set_option linter.all false
namespace Go.Proofs.Ytebnekicbcdnaaa
open Go.RowKit

/-- A length of the result: 0 where there is no cut. -/
noncomputable def cutX (W H : Int) (L : List Sq) (X : Int) : Int := if dc (Good W H L) then X else 0
theorem cutX_yes {W H X : Int} {L : List Sq} (h : Good W H L) : cutX W H L X = X := by simp [cutX, dc_true h]
theorem cutX_no {W H X : Int} {L : List Sq} (h : ¬ Good W H L) : cutX W H L X = 0 := by simp [cutX, dc_false h]

end Go.Proofs.Ytebnekicbcdnaaa
