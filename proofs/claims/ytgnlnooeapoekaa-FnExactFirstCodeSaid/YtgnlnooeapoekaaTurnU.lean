/- Contracts of the model's TurnCut and MirrorCut. -/
import Derived.Test.YtgnlnooeapoekaaTurnJ
import Derived.Test.YtgnlnooeapoekaaTurnT
namespace Go.Proofs.Ytgnlnooeapoekaa
open Go.RowKit

end Go.Proofs.Ytgnlnooeapoekaa
