/- Contracts of SidesOf, the program's and the model's. -/
import Derived.Test.YtchabjmdjpfkfaaGreatGen
set_option linter.all false
namespace Go.Proofs.YtchabjmdjpfkfaaGreat
open Go.RowKit

end Go.Proofs.YtchabjmdjpfkfaaGreat
