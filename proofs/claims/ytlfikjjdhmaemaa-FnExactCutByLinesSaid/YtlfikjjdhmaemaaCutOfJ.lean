/- Contract of the model's CutOf. -/
import Derived.Test.YtlfikjjdhmaemaaCutOfI
set_option linter.all false
namespace Go.Proofs.Ytlfikjjdhmaemaa
open Go.RowKit
end Go.Proofs.Ytlfikjjdhmaemaa
