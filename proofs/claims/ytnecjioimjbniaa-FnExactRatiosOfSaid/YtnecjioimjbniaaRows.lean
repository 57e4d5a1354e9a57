/-
  NARROWER THAN 'FOR EVERY INPUT', by the rows' own cells (each row's printed sentence says how): FnExactTurnedWord: calm.
  DERIVED. THE GIVEN ROWS OF THIS SEAT. 9 by the template 'for every input the law returns true; each argument reads behind the call as it read before'; 0 by the template 'total and deterministic' (their statements: YtnecjioimjbniaaTotals.lean).
  GIVEN WITH THE SEED: the statements are not yours to turn. If you find one false, say at which input.
  Laid BY PROGRAM, IN A SANDBOX (cutbox-rows.mjs): the forced cells as the released guide's own fill.sh prints them over the translation d4f1e2292116721a… (all of the seat's roots in one cut). By AI agents, Wed Nov 11 2026. No macro, syntax, notation, axiom, sorry.
-/
import Derived.Test.YtnecjioimjbniaaChecked
import GoSem.Claim
import GoSem.ClaimJoined
import GoSem.ClaimMapViews
import Derived.JoinedTies
import Derived.KernelRfl
namespace Go.Proofs.Ytnecjioimjbniaa
/- THE CELL 'sum', in the pinned program and in every row, IS THE sha256 OF THE DUMP (.gsa) THAT YtnecjioimjbniaaProg.lean LOADS. Nothing in Lean hashes anything: it is a label: what it is worth is what the hold of that sum in a sandbox is worth. -/
noncomputable def Try.pinned : Pinned := { name := "ytnecjioimjbniaa", sum := "d4f1e2292116721a675fb0acec2a3137435ac97a9af042552df389d96da99bec", checked := Try.checked }
namespace Rows
def none {H : Type} : Left H := { results := [], args := [] }

/-- 'laws.FnExactRatioOfWord': WHATEVER THE INPUT: true; the input reads as it did. -/
def fnExactRatioOfWordSpec : ChangeSpec := { name := "fnExactRatioOfWord", fn := fun _ => fun
  | [d] => { results := [.lit (.bool true)], args := [d] }
  | _ => none }
def fnExactRatioOfWordRow : OpenClaim := { program := "ytnecjioimjbniaa", sum := "d4f1e2292116721a675fb0acec2a3137435ac97a9af042552df389d96da99bec", func := "loop.example/g01296/laws.FnExactRatioOfWord", spec := "fnExactRatioOfWord", apart := false }
def FnExactRatioOfWordSaid : Prop := fnExactRatioOfWordRow.holds Try.pinned (OpenSpec.ofChange fnExactRatioOfWordSpec)

/-- ITS FALSE NEIGHBOUR: 'it returns false'. Refute it at one input. -/
def fnExactRatioOfWordWrong : ChangeSpec := { name := "fnExactRatioOfWord", fn := fun _ => fun
  | [d] => { results := [.lit (.bool false)], args := [d] }
  | _ => none }
def FnExactRatioOfWordWrongFalsely : Prop := fnExactRatioOfWordRow.holds Try.pinned (OpenSpec.ofChange fnExactRatioOfWordWrong)

/-- 'laws.FnExactCutOfWord': WHATEVER THE INPUT: true; the input reads as it did. -/
def fnExactCutOfWordSpec : ChangeSpec := { name := "fnExactCutOfWord", fn := fun _ => fun
  | [d] => { results := [.lit (.bool true)], args := [d] }
  | _ => none }
def fnExactCutOfWordRow : OpenClaim := { program := "ytnecjioimjbniaa", sum := "d4f1e2292116721a675fb0acec2a3137435ac97a9af042552df389d96da99bec", func := "loop.example/g01296/laws.FnExactCutOfWord", spec := "fnExactCutOfWord", unfollowed := true, recurses := true, leaving := true, apart := false }
def FnExactCutOfWordSaid : Prop := fnExactCutOfWordRow.holds Try.pinned (OpenSpec.ofChange fnExactCutOfWordSpec)

/-- ITS FALSE NEIGHBOUR: 'it returns false'. Refute it at one input. -/
def fnExactCutOfWordWrong : ChangeSpec := { name := "fnExactCutOfWord", fn := fun _ => fun
  | [d] => { results := [.lit (.bool false)], args := [d] }
  | _ => none }
def FnExactCutOfWordWrongFalsely : Prop := fnExactCutOfWordRow.holds Try.pinned (OpenSpec.ofChange fnExactCutOfWordWrong)

/-- 'laws.FnExactSidesOfWord': WHATEVER THE INPUT: true; the input reads as it did. -/
def fnExactSidesOfWordSpec : ChangeSpec := { name := "fnExactSidesOfWord", fn := fun _ => fun
  | [d] => { results := [.lit (.bool true)], args := [d] }
  | _ => none }
def fnExactSidesOfWordRow : OpenClaim := { program := "ytnecjioimjbniaa", sum := "d4f1e2292116721a675fb0acec2a3137435ac97a9af042552df389d96da99bec", func := "loop.example/g01296/laws.FnExactSidesOfWord", spec := "fnExactSidesOfWord", apart := false }
def FnExactSidesOfWordSaid : Prop := fnExactSidesOfWordRow.holds Try.pinned (OpenSpec.ofChange fnExactSidesOfWordSpec)

/-- ITS FALSE NEIGHBOUR: 'it returns false'. Refute it at one input. -/
def fnExactSidesOfWordWrong : ChangeSpec := { name := "fnExactSidesOfWord", fn := fun _ => fun
  | [d] => { results := [.lit (.bool false)], args := [d] }
  | _ => none }
def FnExactSidesOfWordWrongFalsely : Prop := fnExactSidesOfWordRow.holds Try.pinned (OpenSpec.ofChange fnExactSidesOfWordWrong)

/-- 'laws.FnExactTurnedWord': WHATEVER THE INPUT: true; the input reads as it did. -/
def fnExactTurnedWordSpec : ChangeSpec := { name := "fnExactTurnedWord", fn := fun _ => fun
  | [d] => { results := [.lit (.bool true)], args := [d] }
  | _ => none }
def fnExactTurnedWordRow : OpenClaim := { program := "ytnecjioimjbniaa", sum := "d4f1e2292116721a675fb0acec2a3137435ac97a9af042552df389d96da99bec", func := "loop.example/g01296/laws.FnExactTurnedWord", spec := "fnExactTurnedWord", inPlace := ["sync/atomic.LoadUint32", "(*internal/sync.Mutex).Lock", "internal/race.Disable", "sync/atomic.CompareAndSwapInt32", "internal/race.Enable", "internal/race.Acquire", "(*internal/sync.Mutex).lockSlow", "internal/sync.runtime_canSpin", "internal/sync.runtime_doSpin", "internal/sync.throw", "internal/sync.runtime_nanotime", "internal/sync.runtime_SemacquireMutex", "sync/atomic.AddInt32", "(*internal/sync.Mutex).Unlock", "internal/race.ReleaseMerge", "(*internal/sync.Mutex).unlockSlow", "internal/sync.fatal", "internal/sync.runtime_Semrelease", "sync/atomic.StoreUint32"], unfollowed := true, recurses := true, leaving := true, apart := false, calm := true, outside := [.timePasses] }
def FnExactTurnedWordSaid : Prop := fnExactTurnedWordRow.holds Try.pinned (OpenSpec.ofChange fnExactTurnedWordSpec)

/-- ITS FALSE NEIGHBOUR: 'it returns false'. Refute it at one input. -/
def fnExactTurnedWordWrong : ChangeSpec := { name := "fnExactTurnedWord", fn := fun _ => fun
  | [d] => { results := [.lit (.bool false)], args := [d] }
  | _ => none }
def FnExactTurnedWordWrongFalsely : Prop := fnExactTurnedWordRow.holds Try.pinned (OpenSpec.ofChange fnExactTurnedWordWrong)

/-- 'laws.FnExactGreatestRatio': WHATEVER THE INPUT: true; the input reads as it did. -/
def fnExactGreatestRatioSpec : ChangeSpec := { name := "fnExactGreatestRatio", fn := fun _ => fun
  | [d] => { results := [.lit (.bool true)], args := [d] }
  | _ => none }
def fnExactGreatestRatioRow : OpenClaim := { program := "ytnecjioimjbniaa", sum := "d4f1e2292116721a675fb0acec2a3137435ac97a9af042552df389d96da99bec", func := "loop.example/g01296/laws.FnExactGreatestRatio", spec := "fnExactGreatestRatio", inPlace := ["internal/abi.NoEscape", "internal/bytealg.MakeNoZero"], apart := false }
def FnExactGreatestRatioSaid : Prop := fnExactGreatestRatioRow.holds Try.pinned (OpenSpec.ofChange fnExactGreatestRatioSpec)

/-- ITS FALSE NEIGHBOUR: 'it returns false'. Refute it at one input. -/
def fnExactGreatestRatioWrong : ChangeSpec := { name := "fnExactGreatestRatio", fn := fun _ => fun
  | [d] => { results := [.lit (.bool false)], args := [d] }
  | _ => none }
def FnExactGreatestRatioWrongFalsely : Prop := fnExactGreatestRatioRow.holds Try.pinned (OpenSpec.ofChange fnExactGreatestRatioWrong)

/-- 'laws.FnExactRatioOfRank': WHATEVER THE INPUT: true; the input reads as it did. -/
def fnExactRatioOfRankSpec : ChangeSpec := { name := "fnExactRatioOfRank", fn := fun _ => fun
  | [d1, d2] => { results := [.lit (.bool true)], args := [d1, d2] }
  | _ => none }
def fnExactRatioOfRankRow : OpenClaim := { program := "ytnecjioimjbniaa", sum := "d4f1e2292116721a675fb0acec2a3137435ac97a9af042552df389d96da99bec", func := "loop.example/g01296/laws.FnExactRatioOfRank", spec := "fnExactRatioOfRank", inPlace := ["internal/abi.NoEscape"], apart := false }
def FnExactRatioOfRankSaid : Prop := fnExactRatioOfRankRow.holds Try.pinned (OpenSpec.ofChange fnExactRatioOfRankSpec)

/-- ITS FALSE NEIGHBOUR: 'it returns false'. Refute it at one input. -/
def fnExactRatioOfRankWrong : ChangeSpec := { name := "fnExactRatioOfRank", fn := fun _ => fun
  | [d1, d2] => { results := [.lit (.bool false)], args := [d1, d2] }
  | _ => none }
def FnExactRatioOfRankWrongFalsely : Prop := fnExactRatioOfRankRow.holds Try.pinned (OpenSpec.ofChange fnExactRatioOfRankWrong)

/-- 'laws.FnExactRatiosOf': WHATEVER THE INPUT: true; the input reads as it did. -/
def fnExactRatiosOfSpec : ChangeSpec := { name := "fnExactRatiosOf", fn := fun _ => fun
  | [d] => { results := [.lit (.bool true)], args := [d] }
  | _ => none }
def fnExactRatiosOfRow : OpenClaim := { program := "ytnecjioimjbniaa", sum := "d4f1e2292116721a675fb0acec2a3137435ac97a9af042552df389d96da99bec", func := "loop.example/g01296/laws.FnExactRatiosOf", spec := "fnExactRatiosOf", inPlace := ["internal/abi.NoEscape"], apart := false }
def FnExactRatiosOfSaid : Prop := fnExactRatiosOfRow.holds Try.pinned (OpenSpec.ofChange fnExactRatiosOfSpec)

/-- ITS FALSE NEIGHBOUR: 'it returns false'. Refute it at one input. -/
def fnExactRatiosOfWrong : ChangeSpec := { name := "fnExactRatiosOf", fn := fun _ => fun
  | [d] => { results := [.lit (.bool false)], args := [d] }
  | _ => none }
def FnExactRatiosOfWrongFalsely : Prop := fnExactRatiosOfRow.holds Try.pinned (OpenSpec.ofChange fnExactRatiosOfWrong)

/-- 'laws.FnExactWordOfRatio': WHATEVER THE INPUT: true; the input reads as it did. -/
def fnExactWordOfRatioSpec : ChangeSpec := { name := "fnExactWordOfRatio", fn := fun _ => fun
  | [d1, d2] => { results := [.lit (.bool true)], args := [d1, d2] }
  | _ => none }
def fnExactWordOfRatioRow : OpenClaim := { program := "ytnecjioimjbniaa", sum := "d4f1e2292116721a675fb0acec2a3137435ac97a9af042552df389d96da99bec", func := "loop.example/g01296/laws.FnExactWordOfRatio", spec := "fnExactWordOfRatio", inPlace := ["internal/abi.NoEscape"], leaving := true, apart := false }
def FnExactWordOfRatioSaid : Prop := fnExactWordOfRatioRow.holds Try.pinned (OpenSpec.ofChange fnExactWordOfRatioSpec)

/-- ITS FALSE NEIGHBOUR: 'it returns false'. Refute it at one input. -/
def fnExactWordOfRatioWrong : ChangeSpec := { name := "fnExactWordOfRatio", fn := fun _ => fun
  | [d1, d2] => { results := [.lit (.bool false)], args := [d1, d2] }
  | _ => none }
def FnExactWordOfRatioWrongFalsely : Prop := fnExactWordOfRatioRow.holds Try.pinned (OpenSpec.ofChange fnExactWordOfRatioWrong)

/-- 'laws.FnExactRankOfRatio': WHATEVER THE INPUT: true; the input reads as it did. -/
def fnExactRankOfRatioSpec : ChangeSpec := { name := "fnExactRankOfRatio", fn := fun _ => fun
  | [d1, d2] => { results := [.lit (.bool true)], args := [d1, d2] }
  | _ => none }
def fnExactRankOfRatioRow : OpenClaim := { program := "ytnecjioimjbniaa", sum := "d4f1e2292116721a675fb0acec2a3137435ac97a9af042552df389d96da99bec", func := "loop.example/g01296/laws.FnExactRankOfRatio", spec := "fnExactRankOfRatio", inPlace := ["internal/abi.NoEscape"], leaving := true, apart := false }
def FnExactRankOfRatioSaid : Prop := fnExactRankOfRatioRow.holds Try.pinned (OpenSpec.ofChange fnExactRankOfRatioSpec)

/-- ITS FALSE NEIGHBOUR: 'it returns false'. Refute it at one input. -/
def fnExactRankOfRatioWrong : ChangeSpec := { name := "fnExactRankOfRatio", fn := fun _ => fun
  | [d1, d2] => { results := [.lit (.bool false)], args := [d1, d2] }
  | _ => none }
def FnExactRankOfRatioWrongFalsely : Prop := fnExactRankOfRatioRow.holds Try.pinned (OpenSpec.ofChange fnExactRankOfRatioWrong)

/- THE SECOND FORM. 'bulk': how many values and letters a reading holds, each counted each time it is reached (what is shared counts as often as it is met; a slice's spare places count too). A statement '..UptoSaid' is the law's where the arguments, and the package variables that the reading takes, are together of bulk at most 1048576: NARROWER than '..Said'. Prove '..Said' where nothing that the law and all that it calls make is longer than what came in: it says more and counts as full. Else prove '..UptoSaid'. A law counts once. -/
mutual
def uptoBulk {H : Type} : DataW H → Nat
  | .lit (.string bytes) => bytes.length + 1
  | .lit _ => 1
  | .nil => 1
  | .ptr d => uptoBulk d + 1
  | .slice elems spare => uptoBulkAll elems + uptoBulkAll spare + 1
  | .agg parts => uptoBulkAll parts + 1
  | .iface _ d => uptoBulk d + 1
  | .map entries => uptoBulkEntries entries + 1
  | .held _ => 1
def uptoBulkAll {H : Type} : List (DataW H) → Nat
  | [] => 0
  | d :: r => uptoBulk d + uptoBulkAll r
def uptoBulkEntries {H : Type} : List (Lit × DataW H) → Nat
  | [] => 0
  | x :: r => uptoBulkEntry x + uptoBulkEntries r
def uptoBulkEntry {H : Type} : Lit × DataW H → Nat
  | (.string bytes, d) => bytes.length + uptoBulk d + 1
  | (_, d) => uptoBulk d + 1
 end
def uptoSmall : (H : Type) → List (DataW H) → Bool := fun _ ds => decide (uptoBulkAll ds ≤ 1048576)
def OpenSpec.upto (s : _root_.Go.ChangeSpec) : _root_.Go.OpenSpec := { _root_.Go.OpenSpec.ofChange s with cond := some uptoSmall }

/-- 'laws.FnExactRatioOfWord', WHERE WHAT IT READS IS OF BULK AT MOST 1048576: true; the input reads as it did. -/
def fnExactRatioOfWordUptoRow : OpenClaim := { program := "ytnecjioimjbniaa", sum := "d4f1e2292116721a675fb0acec2a3137435ac97a9af042552df389d96da99bec", func := "loop.example/g01296/laws.FnExactRatioOfWord", spec := "fnExactRatioOfWord", apart := false, narrowed := true }
def FnExactRatioOfWordUptoSaid : Prop := fnExactRatioOfWordUptoRow.holds Try.pinned (OpenSpec.upto fnExactRatioOfWordSpec)

/-- 'laws.FnExactCutOfWord', WHERE WHAT IT READS IS OF BULK AT MOST 1048576: true; the input reads as it did. -/
def fnExactCutOfWordUptoRow : OpenClaim := { program := "ytnecjioimjbniaa", sum := "d4f1e2292116721a675fb0acec2a3137435ac97a9af042552df389d96da99bec", func := "loop.example/g01296/laws.FnExactCutOfWord", spec := "fnExactCutOfWord", unfollowed := true, recurses := true, leaving := true, apart := false, narrowed := true }
def FnExactCutOfWordUptoSaid : Prop := fnExactCutOfWordUptoRow.holds Try.pinned (OpenSpec.upto fnExactCutOfWordSpec)

/-- 'laws.FnExactSidesOfWord', WHERE WHAT IT READS IS OF BULK AT MOST 1048576: true; the input reads as it did. -/
def fnExactSidesOfWordUptoRow : OpenClaim := { program := "ytnecjioimjbniaa", sum := "d4f1e2292116721a675fb0acec2a3137435ac97a9af042552df389d96da99bec", func := "loop.example/g01296/laws.FnExactSidesOfWord", spec := "fnExactSidesOfWord", apart := false, narrowed := true }
def FnExactSidesOfWordUptoSaid : Prop := fnExactSidesOfWordUptoRow.holds Try.pinned (OpenSpec.upto fnExactSidesOfWordSpec)

/-- 'laws.FnExactTurnedWord', WHERE WHAT IT READS IS OF BULK AT MOST 1048576: true; the input reads as it did. -/
def fnExactTurnedWordUptoRow : OpenClaim := { program := "ytnecjioimjbniaa", sum := "d4f1e2292116721a675fb0acec2a3137435ac97a9af042552df389d96da99bec", func := "loop.example/g01296/laws.FnExactTurnedWord", spec := "fnExactTurnedWord", inPlace := ["sync/atomic.LoadUint32", "(*internal/sync.Mutex).Lock", "internal/race.Disable", "sync/atomic.CompareAndSwapInt32", "internal/race.Enable", "internal/race.Acquire", "(*internal/sync.Mutex).lockSlow", "internal/sync.runtime_canSpin", "internal/sync.runtime_doSpin", "internal/sync.throw", "internal/sync.runtime_nanotime", "internal/sync.runtime_SemacquireMutex", "sync/atomic.AddInt32", "(*internal/sync.Mutex).Unlock", "internal/race.ReleaseMerge", "(*internal/sync.Mutex).unlockSlow", "internal/sync.fatal", "internal/sync.runtime_Semrelease", "sync/atomic.StoreUint32"], unfollowed := true, recurses := true, leaving := true, apart := false, calm := true, outside := [.timePasses], narrowed := true }
def FnExactTurnedWordUptoSaid : Prop := fnExactTurnedWordUptoRow.holds Try.pinned (OpenSpec.upto fnExactTurnedWordSpec)

/-- 'laws.FnExactGreatestRatio', WHERE WHAT IT READS IS OF BULK AT MOST 1048576: true; the input reads as it did. -/
def fnExactGreatestRatioUptoRow : OpenClaim := { program := "ytnecjioimjbniaa", sum := "d4f1e2292116721a675fb0acec2a3137435ac97a9af042552df389d96da99bec", func := "loop.example/g01296/laws.FnExactGreatestRatio", spec := "fnExactGreatestRatio", inPlace := ["internal/abi.NoEscape", "internal/bytealg.MakeNoZero"], apart := false, narrowed := true }
def FnExactGreatestRatioUptoSaid : Prop := fnExactGreatestRatioUptoRow.holds Try.pinned (OpenSpec.upto fnExactGreatestRatioSpec)

/-- 'laws.FnExactRatioOfRank', WHERE WHAT IT READS IS OF BULK AT MOST 1048576: true; the input reads as it did. -/
def fnExactRatioOfRankUptoRow : OpenClaim := { program := "ytnecjioimjbniaa", sum := "d4f1e2292116721a675fb0acec2a3137435ac97a9af042552df389d96da99bec", func := "loop.example/g01296/laws.FnExactRatioOfRank", spec := "fnExactRatioOfRank", inPlace := ["internal/abi.NoEscape"], apart := false, narrowed := true }
def FnExactRatioOfRankUptoSaid : Prop := fnExactRatioOfRankUptoRow.holds Try.pinned (OpenSpec.upto fnExactRatioOfRankSpec)

/-- 'laws.FnExactRatiosOf', WHERE WHAT IT READS IS OF BULK AT MOST 1048576: true; the input reads as it did. -/
def fnExactRatiosOfUptoRow : OpenClaim := { program := "ytnecjioimjbniaa", sum := "d4f1e2292116721a675fb0acec2a3137435ac97a9af042552df389d96da99bec", func := "loop.example/g01296/laws.FnExactRatiosOf", spec := "fnExactRatiosOf", inPlace := ["internal/abi.NoEscape"], apart := false, narrowed := true }
def FnExactRatiosOfUptoSaid : Prop := fnExactRatiosOfUptoRow.holds Try.pinned (OpenSpec.upto fnExactRatiosOfSpec)

/-- 'laws.FnExactWordOfRatio', WHERE WHAT IT READS IS OF BULK AT MOST 1048576: true; the input reads as it did. -/
def fnExactWordOfRatioUptoRow : OpenClaim := { program := "ytnecjioimjbniaa", sum := "d4f1e2292116721a675fb0acec2a3137435ac97a9af042552df389d96da99bec", func := "loop.example/g01296/laws.FnExactWordOfRatio", spec := "fnExactWordOfRatio", inPlace := ["internal/abi.NoEscape"], leaving := true, apart := false, narrowed := true }
def FnExactWordOfRatioUptoSaid : Prop := fnExactWordOfRatioUptoRow.holds Try.pinned (OpenSpec.upto fnExactWordOfRatioSpec)

/-- 'laws.FnExactRankOfRatio', WHERE WHAT IT READS IS OF BULK AT MOST 1048576: true; the input reads as it did. -/
def fnExactRankOfRatioUptoRow : OpenClaim := { program := "ytnecjioimjbniaa", sum := "d4f1e2292116721a675fb0acec2a3137435ac97a9af042552df389d96da99bec", func := "loop.example/g01296/laws.FnExactRankOfRatio", spec := "fnExactRankOfRatio", inPlace := ["internal/abi.NoEscape"], leaving := true, apart := false, narrowed := true }
def FnExactRankOfRatioUptoSaid : Prop := fnExactRankOfRatioUptoRow.holds Try.pinned (OpenSpec.upto fnExactRankOfRatioSpec)

end Rows
end Go.Proofs.Ytnecjioimjbniaa
