/- What the walks of laws on cuts share: boxes of results. -/
import Derived.Test.YtmcgcgclhmckeaaLaws
import Derived.Test.YtmcgcgclhmckeaaOne
namespace Go.Proofs.Ytmcgcgclhmckeaa
open Go.RowKit

/-- A boxed cut's three cells. -/
structure Bx (B : Nat) (w : World) (W H : Int) (A : Option Addr) (n c : Nat) : Prop where
  lt : B < w.heap.size
  c0 : w.cell? ⟨B, 0, none⟩ = some (.int .i64 W)
  c1 : w.cell? ⟨B, 1, none⟩ = some (.int .i64 H)
  c2 : w.cell? ⟨B, 2, none⟩ = some (.slice A n c)
theorem Bx.next {B : Nat} {w w' : World} {W H : Int} {A : Option Addr} {n c : Nat} (h : Bx B w W H A n c) (hb : Below w.heap.size w w') : Bx B w' W H A n c :=
  ⟨Nat.lt_of_lt_of_le h.lt hb.size, (hb.cell (p := ⟨B, 0, none⟩) h.lt).trans h.c0, (hb.cell (p := ⟨B, 1, none⟩) h.lt).trans h.c1, (hb.cell (p := ⟨B, 2, none⟩) h.lt).trans h.c2⟩
theorem Bx.far {B : Nat} {w w' : World} {W H : Int} {A : Option Addr} {n c : Nat} {row : Option Nat} (h : Bx B w W H A n c) (hg : w.grownBy w' row) (hne : row ≠ some B) : Bx B w' W H A n c :=
  ⟨Nat.lt_of_lt_of_le h.lt hg.size, hg.cell h.c0 (fun e => hne e.symm), hg.cell h.c1 (fun e => hne e.symm), hg.cell h.c2 (fun e => hne e.symm)⟩
theorem Bx.start (w : World) (W H : Int) (A : Option Addr) (n c : Nat) (t : TypeId) : Bx w.heap.size (w.alloc (.cells #[.int .i64 W, .int .i64 H, .slice A n c] t)) W H A n c :=
  ⟨by simp, by simp, by simp, by simp⟩
end Go.Proofs.Ytmcgcgclhmckeaa
