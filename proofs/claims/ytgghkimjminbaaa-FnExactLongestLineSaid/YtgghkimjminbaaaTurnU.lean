/- Contracts of the model's TurnCut and MirrorCut. -/
import Derived.Test.YtgghkimjminbaaaTurnJ
import Derived.Test.YtgghkimjminbaaaTurnT
set_option linter.all false
namespace Go.Proofs.Ytgghkimjminbaaa
open Go.RowKit

end Go.Proofs.Ytgghkimjminbaaa
