/- Contracts of SidesOf, the program's and the model's. -/
import Derived.Test.YtgnlnooeapoekaaGen
namespace Go.Proofs.Ytgnlnooeapoekaa
open Go.RowKit

end Go.Proofs.Ytgnlnooeapoekaa
