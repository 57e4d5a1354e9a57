/- Contracts of the model's TurnCut and MirrorCut. -/
import Derived.Test.YtpbghalljfcaoaaTurnJ
import Derived.Test.YtpbghalljfcaoaaTurnT
set_option linter.all false
namespace Go.Proofs.Ytpbghalljfcaoaa
open Go.RowKit

end Go.Proofs.Ytpbghalljfcaoaa
