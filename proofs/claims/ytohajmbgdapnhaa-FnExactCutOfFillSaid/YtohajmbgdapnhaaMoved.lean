/- The program's moved squares, and the model's grown and moved ones. -/
import Derived.Test.YtohajmbgdapnhaaJoinG
import Derived.Test.YtohajmbgdapnhaaConc
import Derived.Test.YtohajmbgdapnhaaGrowT
set_option linter.all false
namespace Go.Proofs.Ytohajmbgdapnhaa
open Go.RowKit

theorem mv_flat (f : Sq → Sq) (L : List Sq) (k : Nat) (s : Sq) (h : L[k]? = some s) : flat ((L.take (k + 1)).map f) = flat ((L.take k).map f) ++ [.int .i64 (f s).x, .int .i64 (f s).y, .int .i64 (f s).d] := flat_map_succ f L k s h
/-- Places that no sum of two takes out of reach. -/
def SmallS (s : Sq) : Prop := (-1000000 ≤ s.x ∧ s.x ≤ 1000000) ∧ (-1000000 ≤ s.y ∧ s.y ≤ 1000000) ∧ (-1000000 ≤ s.d ∧ s.d ≤ 1000000)

end Go.Proofs.Ytohajmbgdapnhaa
