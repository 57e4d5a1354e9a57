/- Contracts of the greatest common divisor, the program's and the model's. -/
import Derived.Test.YtohajmbgdapnhaaOne
set_option linter.all false
namespace Go.Proofs.Ytohajmbgdapnhaa
open Go.RowKit

end Go.Proofs.Ytohajmbgdapnhaa
