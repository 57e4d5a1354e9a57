/- Contracts of the model's TurnCut and MirrorCut. -/
import Derived.Test.YtchabjmdjpfkfaaTurnJ
import Derived.Test.YtchabjmdjpfkfaaTurnT
set_option linter.all false
namespace Go.Proofs.Ytchabjmdjpfkfaa
open Go.RowKit

end Go.Proofs.Ytchabjmdjpfkfaa
