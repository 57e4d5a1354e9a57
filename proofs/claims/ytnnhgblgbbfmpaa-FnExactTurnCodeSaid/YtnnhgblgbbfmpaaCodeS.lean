/- Contract of the model's CodeOf. -/
import Derived.Test.YtnnhgblgbbfmpaaBk
import Derived.Test.YtnnhgblgbbfmpaaCodeI
set_option linter.all false
namespace Go.Proofs.Ytnnhgblgbbfmpaa
open Go.RowKit

end Go.Proofs.Ytnnhgblgbbfmpaa
