/- Contract of the model's CodeOf. -/
import Derived.Test.YtfkifcjjkaenhaaGreatDoorBk
import Derived.Test.YtfkifcjjkaenhaaGreatDoorCodeI
set_option linter.all false
namespace Go.Proofs.YtfkifcjjkaenhaaGreatDoor
open Go.RowKit

end Go.Proofs.YtfkifcjjkaenhaaGreatDoor
