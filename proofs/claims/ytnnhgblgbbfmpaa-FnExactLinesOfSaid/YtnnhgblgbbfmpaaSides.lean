/- Contracts of SidesOf, the program's and the model's. -/
import Derived.Test.YtnnhgblgbbfmpaaGen
set_option linter.all false
namespace Go.Proofs.Ytnnhgblgbbfmpaa
open Go.RowKit

end Go.Proofs.Ytnnhgblgbbfmpaa
