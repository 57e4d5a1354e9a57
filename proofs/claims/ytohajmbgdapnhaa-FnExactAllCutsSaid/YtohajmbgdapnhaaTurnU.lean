/- Contracts of the model's TurnCut and MirrorCut. -/
import Derived.Test.YtohajmbgdapnhaaTurnJ
import Derived.Test.YtohajmbgdapnhaaTurnT
set_option linter.all false
namespace Go.Proofs.Ytohajmbgdapnhaa
open Go.RowKit

end Go.Proofs.Ytohajmbgdapnhaa
