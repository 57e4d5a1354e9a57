/- What contracts and walks of all laws share. -/
import Derived.Test.YtebnekicbcdnaaaGood
import Derived.Test.YtebnekicbcdnaaaMark
import Derived.OneCell
import Derived.Deep.AppendLies
import Derived.Deep.RegionLaw
set_option linter.all false
namespace Go.Proofs.Ytebnekicbcdnaaa
open Go.RowKit

theorem infoInt : (Try.prog.info? 3).map (fun i => (i.zero, i.size, i.bytes)) = some (some (.int .i64 0), 1, 8) := by kernel_rfl
def sides (L : List Sq) : List Int := L.map (·.d)
theorem sides_take_succ (L : List Sq) (k : Nat) (s : Sq) (h : L[k]? = some s) : sides (L.take (k + 1)) = sides (L.take k) ++ [s.d] := by
  rw [List.take_add_one, h]; simp [sides]
theorem sides_len (L : List Sq) : (sides L).length = L.length := by simp [sides]
theorem ints_app (L M : List Int) : ints (L ++ M) = ints L ++ ints M := by simp [ints]
theorem own_val {w : World} {base : Nat} {e : TypeId} {size n : Nat} {v : Value} {xs : List Value} (h : w.ownsRow base e size v n xs) : ∃ A c, v = .slice A n c := by
  rcases h.2 with ⟨rfl, rfl⟩ | ⟨g, cap, cur, rfl, _⟩
  · exact ⟨none, 0, rfl⟩
  · exact ⟨_, _, rfl⟩
/-- It returns a list of numbers in memory of the call's own, and a bool. -/
def RetInts (w : World) (R : List Int) (ok : Bool) (e : Ending) (w' : World) : Prop :=
  ∃ A c, e = .returned (.tuple #[.slice A R.length c, .bool ok]) ∧ w'.ownsRow w.heap.size 3 1 (.slice A R.length c) R.length (ints R) ∧ Below w.heap.size w w'
theorem RetInts.none_ {w w' : World} (hb : Below w.heap.size w w') : RetInts w [] false (.returned (.tuple #[.slice none 0 0, .bool false])) w' :=
  ⟨none, 0, rfl, World.ownsRow_nil _ _ _ _, hb⟩
theorem RetInts.mk {w w' : World} {A : Option Addr} {n c : Nat} {R : List Int} {ok : Bool} (hn : n = R.length) (ho : w'.ownsRow w.heap.size 3 1 (.slice A n c) n (ints R)) (hb : Below w.heap.size w w') : RetInts w R ok (.returned (.tuple #[.slice A n c, .bool ok])) w' := by
  subst hn; exact ⟨A, c, rfl, ho, hb⟩
noncomputable def ifGood {α : Type} (W H : Int) (L : List Sq) (R : List α) : List α := if dc (Good W H L) then R else []
theorem ifGood_yes {α : Type} {W H : Int} {L : List Sq} {R : List α} (h : Good W H L) : ifGood W H L R = R := by simp [ifGood, dc_true h]
theorem ifGood_no {α : Type} {W H : Int} {L : List Sq} {R : List α} (h : ¬ Good W H L) : ifGood W H L R = [] := by simp [ifGood, dc_false h]

/-- It returns a cut in memory of the call's own, and a bool. -/
def RetCut (w : World) (W H : Int) (R : List Sq) (ok : Bool) (e : Ending) (w' : World) : Prop :=
  ∃ A c, e = .returned (.tuple #[.agg #[.int .i64 W, .int .i64 H, .slice A R.length c], .bool ok]) ∧ w'.ownsRow w.heap.size 96 3 (.slice A R.length c) R.length (flat R) ∧ Below w.heap.size w w'
theorem RetCut.mk {w w' : World} {W H : Int} {A : Option Addr} {n c : Nat} {R : List Sq} {ok : Bool} (hn : n = R.length) (ho : w'.ownsRow w.heap.size 96 3 (.slice A n c) n (flat R)) (hb : Below w.heap.size w w') :
    RetCut w W H R ok (.returned (.tuple #[.agg #[.int .i64 W, .int .i64 H, .slice A n c], .bool ok])) w' := by
  subst hn; exact ⟨A, c, rfl, ho, hb⟩
theorem RetCut.none_ {w w' : World} (hb : Below w.heap.size w w') : RetCut w 0 0 [] false (.returned (.tuple #[.agg #[.int .i64 0, .int .i64 0, .slice none 0 0], .bool false])) w' :=
  ⟨none, 0, rfl, World.ownsRow_nil _ _ _ _, hb⟩

/-- What a region may lean on: below block B all is as it was in Wc. -/
theorem keepS {B : Nat} {Wc wp w' : World} (hS : Below B Wc wp ∧ B ≤ wp.heap.size ∧ ∀ b o, b < B → wp.cell? ⟨b, o, none⟩ = Wc.cell? ⟨b, o, none⟩) (hb : Below wp.heap.size wp w') :
    Below B Wc w' ∧ B ≤ w'.heap.size ∧ ∀ b o, b < B → w'.cell? ⟨b, o, none⟩ = Wc.cell? ⟨b, o, none⟩ :=
  ⟨hS.1.trans (hb.mono hS.2.1), Nat.le_trans hS.2.1 hb.size, fun b o h => (hb.cell (p := ⟨b, o, none⟩) (Nat.lt_of_lt_of_le h hS.2.1)).trans (hS.2.2 b o h)⟩

theorem belowS {B : Nat} {Wc wp : World} (hS : Below B Wc wp ∧ B ≤ wp.heap.size ∧ ∀ b o, b < B → wp.cell? ⟨b, o, none⟩ = Wc.cell? ⟨b, o, none⟩) : Below B Wc wp := hS.1
theorem sqsS {B : Nat} {Wc wp : World} {A : Option Addr} {L : List Sq} (h : SqsAt Wc B A L) (hS : Below B Wc wp ∧ B ≤ wp.heap.size ∧ ∀ b o, b < B → wp.cell? ⟨b, o, none⟩ = Wc.cell? ⟨b, o, none⟩) : SqsAt wp wp.heap.size A L :=
  (h.below hS.1).mono hS.2.1


theorem markCut_any (W H : Int) (A : Option Addr) (n c base : Nat) (xs : List Value) (k0 : Int) (w : World) (hn : n ≤ 1048576) (h0 : 0 ≤ k0) (h1 : k0 ≤ 1000000000) (hown : w.ownsRow base 96 3 (.slice A n c) n xs) :
    Calls Try.prog 40 #[.agg #[.int .i64 W, .int .i64 H, .slice A n c], .int .i64 k0] w fun e w' => e = .returned (.int .i64 (k0 + 3 * n)) ∧ w'.ownsRow base 96 3 (.slice A n c) n (flat (upS k0 n)) ∧ w.grownBy w' (Value.slice A n c).ownBlock := by
  have hb0 : ∀ o : Obj, w.grownBy (w.alloc o) (Value.slice A n c).ownBlock := fun o => World.grownBy_alloc w o _
  go_enter Try.func40, Try.ntmps40
  go_wp2_with fail
  refine (markSquareS_any A n c base xs k0 _ hn h0 h1 (hown.alloc _)).mono ?_
  rintro e w1 ⟨rfl, ho, hg⟩
  go_wp2_with fail
  go_ret
  exact ⟨rfl, ho, grown_trans (hb0 _) hg⟩

theorem heldCut_any (W H : Int) (A : Option Addr) (n c : Nat) (k0 : Int) (w : World) (hn : n ≤ 1048576) (h0 : 0 ≤ k0) (h1 : k0 ≤ 1000000000) (hL : SqsAt w w.heap.size A (upS k0 n)) :
    Calls Try.prog 45 #[.agg #[.int .i64 W, .int .i64 H, .slice A n c], .int .i64 k0] w fun e w' => e = .returned (.int .i64 (k0 + 3 * n)) ∧ Below w.heap.size w w' := by
  have hb0 : ∀ o : Obj, Below w.heap.size w (w.alloc o) := fun o => (Below.refl _ _).alloc (Nat.le_refl _) o
  have h' : ¬ k0 + 3 * (n : Int) < 0 := by omega
  go_enter Try.func45, Try.ntmps45
  go_wp2_with fail
  refine (heldSquareS_any A n c k0 _ hn h0 h1 ((hL.below (hb0 _)).mono (hb0 _).size)).mono ?_
  rintro e w1 ⟨rfl, rfl⟩
  go_wp2_with fail
  go_ret
  exact ⟨rfl, hb0 _⟩
/-- A boxed cut's three cells. -/
structure Bx (B : Nat) (w : World) (W H : Int) (A : Option Addr) (n c : Nat) : Prop where
  lt : B < w.heap.size
  c0 : w.cell? ⟨B, 0, none⟩ = some (.int .i64 W)
  c1 : w.cell? ⟨B, 1, none⟩ = some (.int .i64 H)
  c2 : w.cell? ⟨B, 2, none⟩ = some (.slice A n c)
theorem Bx.next {B : Nat} {w w' : World} {W H : Int} {A : Option Addr} {n c : Nat} (h : Bx B w W H A n c) (hb : Below w.heap.size w w') : Bx B w' W H A n c :=
  ⟨Nat.lt_of_lt_of_le h.lt hb.size, (hb.cell (p := ⟨B, 0, none⟩) h.lt).trans h.c0, (hb.cell (p := ⟨B, 1, none⟩) h.lt).trans h.c1, (hb.cell (p := ⟨B, 2, none⟩) h.lt).trans h.c2⟩
theorem Bx.far {B : Nat} {w w' : World} {W H : Int} {A : Option Addr} {n c : Nat} {row : Option Nat} (h : Bx B w W H A n c) (hg : w.grownBy w' row) (hne : row ≠ some B) : Bx B w' W H A n c :=
  ⟨Nat.lt_of_lt_of_le h.lt hg.size, hg.cell h.c0 (fun e => hne e.symm), hg.cell h.c1 (fun e => hne e.symm), hg.cell h.c2 (fun e => hne e.symm)⟩
theorem Bx.start (w : World) (W H : Int) (A : Option Addr) (n c : Nat) (t : TypeId) : Bx w.heap.size (w.alloc (.cells #[.int .i64 W, .int .i64 H, .slice A n c] t)) W H A n c :=
  ⟨by simp, by simp, by simp, by simp⟩
theorem new3 (w : World) (a b c : Value) (t : TypeId) : ∀ j u, [a, b, c][j]? = some u → (w.alloc (.cells #[a, b, c] t)).cell? ((⟨w.heap.size, 0, none⟩ : Addr).add j) = some u := by
  intro j u hj
  match j, hj with
  | 0, hj => simp at hj; subst hj; simp [Addr.add]
  | 1, hj => simp at hj; subst hj; simp [Addr.add]
  | 2, hj => simp at hj; subst hj; simp [Addr.add]
theorem behind (w : World) (o : Obj) : Below w.heap.size w (w.drew.alloc o) := (Below.refl _ _).drew.alloc (Nat.le_refl _) o
theorem farC {w w6 : World} {o : Obj} {row : Option Nat} {a : Addr} {v : Value} (hg : (w.drew.alloc o).grownBy w6 row) (hlt : a.block < w.heap.size) (hne : some a.block ≠ row) (h : w.cell? a = some v) : w6.cell? a = some v :=
  (hg.cell_far a (Nat.lt_of_lt_of_le hlt (behind w o).size) hne).trans (((behind w o).cell hlt).trans h)
theorem farF {w w6 : World} {o : Obj} {row : Option Nat} {a : Addr} (hg : (w.drew.alloc o).grownBy w6 row) (hlt : a.block < w.heap.size) (hne : some a.block ≠ row) (h : w.frozen? a = false) : w6.frozen? a = false :=
  (hg.frozen_far a (Nat.lt_of_lt_of_le hlt (behind w o).size) hne).trans (((behind w o).frozen hlt).trans h)
theorem farB {B : Nat} {w w6 : World} {o : Obj} {row : Option Nat} (hg : (w.drew.alloc o).grownBy w6 row) (hlt : B ≤ w.heap.size) (hr : ∀ k, row = some k → B ≤ k) : Below B w w6 :=
  ((behind w o).mono hlt).trans (below_of_grown hg (Nat.le_trans hlt (behind w o).size) hr)
theorem putC0 {w : World} {O : Nat} {V u : Value} (y : w.cell? ⟨O, 0, none⟩ = some u) : (w.setCell ⟨O, 2, none⟩ V).cell? ⟨O, 0, none⟩ = some u := by
  simp [go_sem, y]
theorem putC1 {w : World} {O : Nat} {V u : Value} (y : w.cell? ⟨O, 1, none⟩ = some u) : (w.setCell ⟨O, 2, none⟩ V).cell? ⟨O, 1, none⟩ = some u := by
  simp [go_sem, y]
theorem putC2 {w : World} {O : Nat} {V u : Value} (y : w.cell? ⟨O, 2, none⟩ = some u) : (w.setCell ⟨O, 2, none⟩ V).cell? ⟨O, 2, none⟩ = some V := by
  simp [go_sem, y]
theorem one3 (a b c : Int) : ∀ u ∈ [Value.int .i64 a, Value.int .i64 b, Value.int .i64 c], u.oneCell' = true := by
  intro u hu; simp at hu; rcases hu with rfl | rfl | rfl <;> rfl

theorem grown_below {w w' w'' : World} {row : Option Nat} (h : w.grownBy w' row) (b : Below w.heap.size w' w'') : w.grownBy w'' row :=
  ⟨b.os.trans h.os, b.tape.trans h.tape, b.output.trans h.output, Nat.le_trans h.size b.size, fun k hk hne => (b.block k hk).trans (h.block k hk hne)⟩
end Go.Proofs.Ytebnekicbcdnaaa
