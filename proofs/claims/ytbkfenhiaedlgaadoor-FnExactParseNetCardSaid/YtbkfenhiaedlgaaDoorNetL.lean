/- A boxed net in later worlds; the model's IsNet. -/
import Derived.Test.YtbkfenhiaedlgaaDoorNetQ
set_option linter.all false
namespace Go.Proofs.YtbkfenhiaedlgaaDoor
open Go.RowKit

/-- A boxed net, as it lies in a later world: its box at block B, its wires below it. -/
structure NBox (B : Nat) (w w' : World) (W : Int) (A : Option Addr) (c : Nat) (L : List Wi) : Prop where
  below : Below B w w'
  lt : B < w'.heap.size
  c0 : w'.cell? ⟨B, 0, none⟩ = some (.int .i64 W)
  c1 : w'.cell? ⟨B, 1, none⟩ = some (.slice A L.length c)
  sqs : WisAt w' B A L
theorem NBox.next {B : Nat} {w w1 w2 : World} {W : Int} {A : Option Addr} {c : Nat} {L : List Wi} (h : NBox B w w1 W A c L) (hb : Below w1.heap.size w1 w2) : NBox B w w2 W A c L :=
  ⟨h.below.trans (hb.mono (Nat.le_of_lt h.lt)), Nat.lt_of_lt_of_le h.lt hb.size, (hb.cell (p := ⟨B, 0, none⟩) h.lt).trans h.c0, (hb.cell (p := ⟨B, 1, none⟩) h.lt).trans h.c1, h.sqs.below (hb.mono (Nat.le_of_lt h.lt))⟩
theorem NBox.keep {B B' : Nat} {w w1 w2 : World} {W : Int} {A : Option Addr} {c : Nat} {L : List Wi} (h : NBox B w w1 W A c L) (hb : Below B' w1 w2) (hB : B < B') (hz : w1.heap.size ≤ w2.heap.size) : NBox B w w2 W A c L :=
  ⟨h.below.trans (hb.mono (Nat.le_of_lt hB)), Nat.lt_of_lt_of_le h.lt hz, (hb.cell (p := ⟨B, 0, none⟩) hB).trans h.c0, (hb.cell (p := ⟨B, 1, none⟩) hB).trans h.c1, h.sqs.below (hb.mono (Nat.le_of_lt hB))⟩

theorem NBox.start {w : World} {W : Int} {A : Option Addr} {c : Nat} {L : List Wi} {t : TypeId} (hL : WisAt w w.heap.size A L) : NBox w.heap.size w (w.alloc (.cells #[.int .i64 W, .slice A L.length c] t)) W A c L :=
  have hb := (Below.refl w.heap.size w).alloc (Nat.le_refl _) (.cells #[.int .i64 W, .slice A L.length c] t)
  ⟨hb, by simp, by simp, by simp, hL.below hb⟩


end Go.Proofs.YtbkfenhiaedlgaaDoor
