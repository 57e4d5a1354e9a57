/- Contracts of the model's TurnCut and MirrorCut. -/
import Derived.Test.YtdkokblgakgklaaTurnJ
import Derived.Test.YtdkokblgakgklaaTurnT
namespace Go.Proofs.Ytdkokblgakgklaa
open Go.RowKit

end Go.Proofs.Ytdkokblgakgklaa
