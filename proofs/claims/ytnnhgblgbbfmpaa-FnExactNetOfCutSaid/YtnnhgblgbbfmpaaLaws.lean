/- What all laws' walks share, and the model's IsCut. -/
import Derived.Test.YtnnhgblgbbfmpaaGen
set_option linter.all false
namespace Go.Proofs.Ytnnhgblgbbfmpaa
open Go.RowKit

end Go.Proofs.Ytnnhgblgbbfmpaa
