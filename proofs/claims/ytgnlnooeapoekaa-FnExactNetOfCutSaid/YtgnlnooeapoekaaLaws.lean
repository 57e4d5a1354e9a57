/- What all laws' walks share, and the model's IsCut. -/
import Derived.Test.YtgnlnooeapoekaaGen
namespace Go.Proofs.Ytgnlnooeapoekaa
open Go.RowKit

end Go.Proofs.Ytgnlnooeapoekaa
