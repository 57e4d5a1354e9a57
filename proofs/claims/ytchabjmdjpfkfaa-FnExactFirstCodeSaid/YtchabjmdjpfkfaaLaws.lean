/- What all laws' walks share, and the model's IsCut. -/
import Derived.Test.YtchabjmdjpfkfaaGen
set_option linter.all false
namespace Go.Proofs.Ytchabjmdjpfkfaa
open Go.RowKit

end Go.Proofs.Ytchabjmdjpfkfaa
