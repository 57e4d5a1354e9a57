/- Contracts of the model's TurnCut and MirrorCut. -/
import Derived.Test.YtdjbddkjilhcjaaGreatTurnJ
import Derived.Test.YtdjbddkjilhcjaaGreatTurnT
set_option linter.all false
namespace Go.Proofs.YtdjbddkjilhcjaaGreat
open Go.RowKit

end Go.Proofs.YtdjbddkjilhcjaaGreat
