/- Contracts of the model's TurnCut and MirrorCut. -/
import Derived.Test.YtpbghalljfcaoaaGreatTurnJ
import Derived.Test.YtpbghalljfcaoaaGreatTurnT
set_option linter.all false
namespace Go.Proofs.YtpbghalljfcaoaaGreat
open Go.RowKit

end Go.Proofs.YtpbghalljfcaoaaGreat
