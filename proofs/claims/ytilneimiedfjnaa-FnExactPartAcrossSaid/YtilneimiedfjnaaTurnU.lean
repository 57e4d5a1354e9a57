/- Contracts of the model's TurnCut and MirrorCut. -/
import Derived.Test.YtilneimiedfjnaaTurnJ
import Derived.Test.YtilneimiedfjnaaTurnT
set_option linter.all false
namespace Go.Proofs.Ytilneimiedfjnaa
open Go.RowKit

end Go.Proofs.Ytilneimiedfjnaa
