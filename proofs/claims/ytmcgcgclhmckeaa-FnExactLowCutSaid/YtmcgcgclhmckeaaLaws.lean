/- What all laws' walks share. -/
import Derived.Test.YtmcgcgclhmckeaaGood
import Derived.Test.YtmcgcgclhmckeaaMark
namespace Go.Proofs.Ytmcgcgclhmckeaa
open Go.RowKit

theorem specIsCut_any (W H : Int) (A : Option Addr) (n c : Nat) (L : List Sq) (w : World) (hl : L.length = n) (hc : n ≤ c) (hL : SqsAt w w.heap.size A L) :
    Calls Try.prog 21 #[.agg #[.int .i64 W, .int .i64 H, .slice A n c]] w (RetB w (Good W H L)) := by
  have hb0 : ∀ o : Obj, Below w.heap.size w (w.alloc o) := fun o => (Below.refl _ _).alloc (Nat.le_refl _) o
  go_enter Try.func21, Try.ntmps21
  go_wp2_with fail
  refine (cuGood_any W H A n c L _ hl hc ((hL.below (hb0 _)).mono (hb0 _).size)).mono ?_
  rintro e w' ⟨rfl, hb⟩
  go_wp2_with fail
  go_ret
  exact ⟨rfl, (hb0 _).trans (hb.mono (hb0 _).size)⟩

/-- What a region may lean on: below block B all is as it was in Wc. -/
theorem keepS {B : Nat} {Wc wp w' : World} (hS : Below B Wc wp ∧ B ≤ wp.heap.size ∧ ∀ b o, b < B → wp.cell? ⟨b, o, none⟩ = Wc.cell? ⟨b, o, none⟩) (hb : Below wp.heap.size wp w') :
    Below B Wc w' ∧ B ≤ w'.heap.size ∧ ∀ b o, b < B → w'.cell? ⟨b, o, none⟩ = Wc.cell? ⟨b, o, none⟩ :=
  ⟨hS.1.trans (hb.mono hS.2.1), Nat.le_trans hS.2.1 hb.size, fun b o h => (hb.cell (p := ⟨b, o, none⟩) (Nat.lt_of_lt_of_le h hS.2.1)).trans (hS.2.2 b o h)⟩

theorem belowS {B : Nat} {Wc wp : World} (hS : Below B Wc wp ∧ B ≤ wp.heap.size ∧ ∀ b o, b < B → wp.cell? ⟨b, o, none⟩ = Wc.cell? ⟨b, o, none⟩) : Below B Wc wp := hS.1
theorem sqsS {B : Nat} {Wc wp : World} {A : Option Addr} {L : List Sq} (h : SqsAt Wc B A L) (hS : Below B Wc wp ∧ B ≤ wp.heap.size ∧ ∀ b o, b < B → wp.cell? ⟨b, o, none⟩ = Wc.cell? ⟨b, o, none⟩) : SqsAt wp wp.heap.size A L :=
  (h.below hS.1).mono hS.2.1


theorem markCut_any (W H : Int) (A : Option Addr) (n c base : Nat) (xs : List Value) (k0 : Int) (w : World) (hn : n ≤ 1048576) (h0 : 0 ≤ k0) (h1 : k0 ≤ 1000000000) (hown : w.ownsRow base 64 3 (.slice A n c) n xs) :
    Calls Try.prog 27 #[.agg #[.int .i64 W, .int .i64 H, .slice A n c], .int .i64 k0] w fun e w' => e = .returned (.int .i64 (k0 + 3 * n)) ∧ w'.ownsRow base 64 3 (.slice A n c) n (flat (upS k0 n)) ∧ w.grownBy w' (Value.slice A n c).ownBlock := by
  have hb0 : ∀ o : Obj, w.grownBy (w.alloc o) (Value.slice A n c).ownBlock := fun o => World.grownBy_alloc w o _
  go_enter Try.func27, Try.ntmps27
  go_wp2_with fail
  refine (markSquareS_any A n c base xs k0 _ hn h0 h1 (hown.alloc _)).mono ?_
  rintro e w1 ⟨rfl, ho, hg⟩
  go_wp2_with fail
  go_ret
  exact ⟨rfl, ho, grown_trans (hb0 _) hg⟩

theorem heldCut_any (W H : Int) (A : Option Addr) (n c : Nat) (k0 : Int) (w : World) (hn : n ≤ 1048576) (h0 : 0 ≤ k0) (h1 : k0 ≤ 1000000000) (hL : SqsAt w w.heap.size A (upS k0 n)) :
    Calls Try.prog 28 #[.agg #[.int .i64 W, .int .i64 H, .slice A n c], .int .i64 k0] w fun e w' => e = .returned (.int .i64 (k0 + 3 * n)) ∧ Below w.heap.size w w' := by
  have hb0 : ∀ o : Obj, Below w.heap.size w (w.alloc o) := fun o => (Below.refl _ _).alloc (Nat.le_refl _) o
  have h' : ¬ k0 + 3 * (n : Int) < 0 := by omega
  go_enter Try.func28, Try.ntmps28
  go_wp2_with fail
  refine (heldSquareS_any A n c k0 _ hn h0 h1 ((hL.below (hb0 _)).mono (hb0 _).size)).mono ?_
  rintro e w1 ⟨rfl, rfl⟩
  go_wp2_with fail
  go_ret
  exact ⟨rfl, hb0 _⟩
end Go.Proofs.Ytmcgcgclhmckeaa
