/- Contracts of SidesOf, the program's and the model's. -/
import Derived.Test.YtpbghalljfcaoaaGen
set_option linter.all false
namespace Go.Proofs.Ytpbghalljfcaoaa
open Go.RowKit

end Go.Proofs.Ytpbghalljfcaoaa
