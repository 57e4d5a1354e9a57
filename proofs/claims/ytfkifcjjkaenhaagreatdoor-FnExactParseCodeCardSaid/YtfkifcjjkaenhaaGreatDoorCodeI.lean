/- Contract of the program's CodeOf. -/
import Derived.Test.YtfkifcjjkaenhaaGreatDoorEach
set_option linter.all false
namespace Go.Proofs.YtfkifcjjkaenhaaGreatDoor
open Go.RowKit

theorem good_fine {W H : Int} {L : List Sq} (hG : Good W H L) : ∀ s ∈ L, Fine s := fun s hs => by
  obtain ⟨j, hj⟩ := List.mem_iff_getElem?.1 hs
  exact (hG.2.2.2.1 j s hj).1.fine hG.1.2 hG.2.1.2

end Go.Proofs.YtfkifcjjkaenhaaGreatDoor
