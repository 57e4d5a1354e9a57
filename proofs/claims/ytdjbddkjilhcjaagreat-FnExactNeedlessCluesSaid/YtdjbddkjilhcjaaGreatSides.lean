/- Contracts of SidesOf, the program's and the model's. -/
import Derived.Test.YtdjbddkjilhcjaaGreatGen
set_option linter.all false
namespace Go.Proofs.YtdjbddkjilhcjaaGreat
open Go.RowKit

end Go.Proofs.YtdjbddkjilhcjaaGreat
