/- Contracts of SidesOf, the program's and the model's. -/
import Derived.Test.YtpbghalljfcaoaaGreatGen
set_option linter.all false
namespace Go.Proofs.YtpbghalljfcaoaaGreat
open Go.RowKit

end Go.Proofs.YtpbghalljfcaoaaGreat
