/- The program's scaled: a cut grown, though it may become too great. -/
import Derived.Test.YtohajmbgdapnhaaGrowI
set_option linter.all false
namespace Go.Proofs.Ytohajmbgdapnhaa
open Go.RowKit

end Go.Proofs.Ytohajmbgdapnhaa
