/- Contract of the model's CodeOf. -/
import Derived.Test.YtbkfenhiaedlgaaDoorBk
import Derived.Test.YtbkfenhiaedlgaaDoorCodeI
set_option linter.all false
namespace Go.Proofs.YtbkfenhiaedlgaaDoor
open Go.RowKit

end Go.Proofs.YtbkfenhiaedlgaaDoor
