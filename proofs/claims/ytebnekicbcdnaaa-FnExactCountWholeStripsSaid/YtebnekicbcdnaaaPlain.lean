/- Plain facts on squares and lists: no program in sight. -/
import Derived.Test.YtebnekicbcdnaaaChecked
import Derived.WalkKit
import Derived.Lib.Hide
import Derived.BigQuiet
import Derived.Deep.QuietTactic
set_option linter.all false
namespace Go.Proofs.Ytebnekicbcdnaaa
open Go.RowKit

theorem ret_int {k : IntKind} {a b : Int} (h : a = b) : Ending.returned (.int k a) = .returned (.int k b) := by rw [h]
theorem ret_bool {a b : Bool} (h : a = b) : Ending.returned (.bool a) = .returned (.bool b) := by rw [h]
theorem ret_ints {k : IntKind} {a b a' b' : Int} (h : a = a') (h' : b = b') : Ending.returned (.tuple #[.int k a, .int k b]) = .returned (.tuple #[.int k a', .int k b']) := by rw [h, h']
/-- The bool that says p. -/
noncomputable def dc (p : Prop) : Bool := @decide p (Classical.propDecidable p)
theorem dc_iff {p : Prop} : dc p = true ↔ p := by unfold dc; simp
theorem dc_true {p : Prop} (h : p) : dc p = true := dc_iff.2 h
theorem dc_false {p : Prop} (h : ¬ p) : dc p = false := by
  cases e : dc p with
  | false => rfl
  | true => exact absurd (dc_iff.1 e) h
theorem ret_dc {b : Bool} {p : Prop} (h : b = true ↔ p) : Ending.returned (.bool b) = .returned (.bool (dc p)) := by
  cases b with
  | false => rw [dc_false (fun hp => by simpa using h.2 hp)]
  | true => rw [dc_true (h.1 rfl)]
/-- It returns the bool that says p; memory that was there stays. -/
def RetB (w : World) (p : Prop) (e : Ending) (w' : World) : Prop := e = .returned (.bool (dc p)) ∧ Below w.heap.size w w'
theorem RetB.mk {w w' : World} {p : Prop} {b : Bool} (h : b = true ↔ p) (hb : Below w.heap.size w w') : RetB w p (.returned (.bool b)) w' := ⟨ret_dc h, hb⟩
theorem RetB.iff {w w' : World} {p q : Prop} {e : Ending} (h : RetB w p e w') (hpq : p ↔ q) : RetB w q e w' := by rw [show p = q from propext hpq] at h; exact h

/-- A world that is below block B as w is. -/
structure Later (B : Nat) (w : World) where
  val : World
  ok : Below B w val
instance (B : Nat) (w : World) : Nonempty (Later B w) := ⟨⟨w, Below.refl B w⟩⟩
theorem callB_yes {P : Program} {f : FuncId} {args : Array Value} {w : World} {p : Prop} (h : Calls P f args w (RetB w p)) (hp : p) : Calls P f args w fun e w' => e = .returned (.bool true) ∧ Below w.heap.size w w' :=
  h.mono fun _ _ ⟨he, hb⟩ => ⟨by rw [he, dc_true hp], hb⟩
theorem callB_no {P : Program} {f : FuncId} {args : Array Value} {w : World} {p : Prop} (h : Calls P f args w (RetB w p)) (hp : ¬ p) : Calls P f args w fun e w' => e = .returned (.bool false) ∧ Below w.heap.size w w' :=
  h.mono fun _ _ ⟨he, hb⟩ => ⟨by rw [he, dc_false hp], hb⟩
/-- A region that draws its order and whose operations leave what lies below block B: one walk in the order of the text serves every order. -/
theorem wp_region_sub {P : Program} {id : Nat} {Q : Exit → Act → World → Prop} {a : Act} {w : World} {l : List Oper} (B : Nat) (hm : P.follows .mixedOrders = true) (hB : Region.lexB .any l.toArray = true)
    (h : wpQuiet P l.toArray (fun w' => ∃ u : Later B w, w' = u.val) (fun a' => ∀ w', (∃ u : Later B w, w' = u.val) → Q .normal a' w') l a) : (Code.region id l.toArray true).wp P Q a w :=
  wp_region_quiet (C := fun w' => ∃ u : Later B w, w' = u.val) hm hB ⟨⟨_, (Below.refl B w).drew⟩, rfl⟩ (by simpa using h)
theorem sub_of {P : Program} {f : FuncId} {args : Array Value} {w : World} {B : Nat} {v : Value} (u : Later B w) (hB : B ≤ w.heap.size)
    (h : Calls P f args u.val fun e w' => e = .returned v ∧ Below u.val.heap.size u.val w') : Calls P f args u.val fun e w'' => e = .returned v ∧ ∃ u' : Later B w, w'' = u'.val :=
  h.mono fun _ w'' ⟨he, hb⟩ => ⟨he, ⟨⟨w'', u.ok.trans (hb.mono (Nat.le_trans hB u.ok.size))⟩, rfl⟩⟩
theorem sub_same {P : Program} {f : FuncId} {args : Array Value} {w : World} {B : Nat} {v : Value} (u : Later B w)
    (h : Calls P f args u.val fun e w' => e = .returned v ∧ u.val = w') : Calls P f args u.val fun e w'' => e = .returned v ∧ ∃ u' : Later B w, w'' = u'.val :=
  h.mono fun _ _ ⟨he, hw⟩ => ⟨he, u, hw.symm⟩

theorem bcell {W w1 : World} (hb : Below W.heap.size W w1) : (∀ b o, b < W.heap.size → w1.cell? ⟨b, o, none⟩ = W.cell? ⟨b, o, none⟩) ∧ (∀ b o, b < W.heap.size → w1.frozen? ⟨b, o, none⟩ = W.frozen? ⟨b, o, none⟩) :=
  ⟨fun b o h => hb.cell (p := ⟨b, o, none⟩) h, fun b o h => hb.frozen (p := ⟨b, o, none⟩) h⟩

structure Sq where
  x : Int
  y : Int
  d : Int
instance : Inhabited Sq := ⟨⟨0, 0, 0⟩⟩
def wfI (n : Int) : Prop := -9223372036854775808 ≤ n ∧ n ≤ 9223372036854775807
def wfS (s : Sq) : Prop := wfI s.x ∧ wfI s.y ∧ wfI s.d
def flat : List Sq → List Value
  | [] => []
  | s :: r => .int .i64 s.x :: .int .i64 s.y :: .int .i64 s.d :: flat r
theorem flat_len (L : List Sq) : (flat L).length = L.length * 3 := by
  induction L with
  | nil => rfl
  | cons s r ih => simp [flat, ih]; omega
theorem flat_app (L M : List Sq) : flat (L ++ M) = flat L ++ flat M := by
  induction L with
  | nil => rfl
  | cons s r ih => simp [flat, ih]
theorem flat_get (L : List Sq) (i : Nat) (s : Sq) (h : L[i]? = some s) : (flat L)[i * 3]? = some (.int .i64 s.x) ∧ (flat L)[i * 3 + 1]? = some (.int .i64 s.y) ∧ (flat L)[i * 3 + 2]? = some (.int .i64 s.d) := by
  induction L generalizing i with
  | nil => simp at h
  | cons t r ih =>
    cases i with
    | zero => simp at h; subst h; exact ⟨rfl, rfl, rfl⟩
    | succ i =>
      have h' : r[i]? = some s := by simpa using h
      have e : (i + 1) * 3 = i * 3 + 3 := by omega
      have := ih i h'
      rw [e]
      simpa [flat] using this
theorem flat_take_succ (L : List Sq) (k : Nat) (s : Sq) (h : L[k]? = some s) : flat (L.take (k + 1)) = flat (L.take k) ++ [.int .i64 s.x, .int .i64 s.y, .int .i64 s.d] := by
  rw [List.take_add_one, h, flat_app]
  rfl
theorem take_set3 (xs : List Value) (k : Nat) (a b c : Value) (h : k * 3 + 3 ≤ xs.length) : (((xs.set (k * 3) a).set (k * 3 + 1) b).set (k * 3 + 2) c).take ((k + 1) * 3) = xs.take (k * 3) ++ [a, b, c] := by
  apply List.ext_getElem?
  intro i
  have hm : min (k * 3) xs.length = k * 3 := by omega
  rw [List.getElem?_take, List.getElem?_append, List.length_take, hm]
  rcases Nat.lt_or_ge i (k * 3) with h1 | h1
  · have h1' : i < (k + 1) * 3 := by omega
    rw [if_pos h1', if_pos h1, List.getElem?_set_ne (by omega), List.getElem?_set_ne (by omega), List.getElem?_set_ne (by omega), List.getElem?_take, if_pos h1]
  · have h1' : ¬ i < k * 3 := by omega
    rw [if_neg h1']
    rcases Nat.lt_or_ge i (k * 3 + 3) with h2 | h2
    · have h2' : i < (k + 1) * 3 := by omega
      rw [if_pos h2']
      rcases (by omega : i = k * 3 ∨ i = k * 3 + 1 ∨ i = k * 3 + 2) with rfl | rfl | rfl
      · rw [List.getElem?_set_ne (by omega), List.getElem?_set_ne (by omega), List.getElem?_set_self (by omega)]; simp
      · rw [List.getElem?_set_ne (by omega), List.getElem?_set_self (by simp; omega)]
        have : k * 3 + 1 - k * 3 = 1 := by omega
        rw [this]; rfl
      · rw [List.getElem?_set_self (by simp; omega)]
        have : k * 3 + 2 - k * 3 = 2 := by omega
        rw [this]; rfl
    · have h2' : ¬ i < (k + 1) * 3 := by omega
      rw [if_neg h2', List.getElem?_eq_none (by simp; omega)]

/-- Square i of a slice at address A lies below block B with its three cells. -/
def SqsAt (w : World) (B : Nat) (A : Option Addr) (L : List Sq) : Prop :=
  ∀ i s, L[i]? = some s → ∃ b off, A = some ⟨b, off, none⟩ ∧ b < B ∧ w.cell? ⟨b, off + i * 3, none⟩ = some (.int .i64 s.x) ∧ w.cell? ⟨b, off + i * 3 + 1, none⟩ = some (.int .i64 s.y) ∧ w.cell? ⟨b, off + i * 3 + 2, none⟩ = some (.int .i64 s.d)
theorem SqsAt.below {w w' : World} {B : Nat} {A : Option Addr} {L : List Sq} (h : SqsAt w B A L) (hb : Below B w w') : SqsAt w' B A L := by
  intro i s hs
  obtain ⟨b, off, e, hB, c0, c1, c2⟩ := h i s hs
  exact ⟨b, off, e, hB, (hb.cell (p := ⟨b, _, none⟩) hB).trans c0, (hb.cell (p := ⟨b, _, none⟩) hB).trans c1, (hb.cell (p := ⟨b, _, none⟩) hB).trans c2⟩
theorem SqsAt.mono {w : World} {B B' : Nat} {A : Option Addr} {L : List Sq} (h : SqsAt w B A L) (hB : B ≤ B') : SqsAt w B' A L := by
  intro i s hs
  obtain ⟨b, off, e, hb, r⟩ := h i s hs
  exact ⟨b, off, e, by omega, r⟩
theorem SqsAt.take {w : World} {B : Nat} {A : Option Addr} {L : List Sq} (h : SqsAt w B A L) (k : Nat) : SqsAt w B A (L.take k) := by
  intro i s hs
  rw [List.getElem?_take] at hs
  split at hs
  · exact h i s hs
  · cases hs

theorem own_below {w w' : World} {base : Nat} {e : TypeId} {size n : Nat} {v : Value} {xs : List Value} {B : Nat} (h : w.ownsRow base e size v n xs) (hb : Below B w w') (hB : ∀ k, v.ownBlock = some k → k < B) : w'.ownsRow base e size v n xs := by
  refine ⟨h.1, ?_⟩
  rcases h.2 with hn | ⟨g, cap, cur, rfl, hg, hh, rest⟩
  · exact .inl hn
  · exact .inr ⟨g, cap, cur, rfl, hg, (hb.block g (hB g rfl)).trans hh, rest⟩
theorem own_keep {w w' : World} {base : Nat} {e : TypeId} {size n : Nat} {v : Value} {xs : List Value} (h : w.ownsRow base e size v n xs) (hb : Below w.heap.size w w') : w'.ownsRow base e size v n xs :=
  own_below h hb fun k hk => (h.lt k hk).2
theorem own_base {w : World} {base base' : Nat} {e : TypeId} {size n : Nat} {v : Value} {xs : List Value} (h : w.ownsRow base e size v n xs) (hb : base' ≤ base) : w.ownsRow base' e size v n xs := by
  refine ⟨h.1, ?_⟩
  rcases h.2 with hn | ⟨g, cap, cur, rfl, hg, rest⟩
  · exact .inl hn
  · exact .inr ⟨g, cap, cur, rfl, by omega, rest⟩
theorem own_lt {w : World} {base : Nat} {e : TypeId} {size n cap g : Nat} {xs : List Value} (h : w.ownsRow base e size (.slice (some ⟨g, 0, none⟩) n cap) n xs) : base ≤ g ∧ g < w.heap.size := h.lt g rfl
theorem own_some {w : World} {base : Nat} {e : TypeId} {size n cap g : Nat} {xs : List Value} (h : w.ownsRow base e size (.slice (some ⟨g, 0, none⟩) n cap) n xs) {j : Nat} (hj : j < n * size) : ∃ v, w.cell? ⟨g, j, none⟩ = some v := by
  rw [h.cellAt j hj]
  exact ⟨_, List.getElem?_eq_getElem (by rw [h.1]; exact hj)⟩
theorem sqs_of_own {w : World} {base : Nat} {A : Option Addr} {n c : Nat} {L : List Sq} (h : w.ownsRow base 96 3 (.slice A n c) n (flat L)) : SqsAt w w.heap.size A L := by
  intro i s hs
  have hl : n = L.length := by have := h.1; rw [flat_len] at this; omega
  have hi : i < L.length := by
    rcases Nat.lt_or_ge i L.length with h' | h'
    · exact h'
    · rw [List.getElem?_eq_none h'] at hs; cases hs
  have h2 := h.2
  rcases h2 with ⟨hn, hn0⟩ | ⟨g, cap, cur, he, _⟩
  · omega
  · cases he
    have f := flat_get L i s hs
    refine ⟨g, 0, rfl, (own_lt h).2, ?_⟩
    simp only [Nat.zero_add]
    exact ⟨(h.cellAt (i * 3) (by omega)).trans f.1, (h.cellAt (i * 3 + 1) (by omega)).trans f.2.1, (h.cellAt (i * 3 + 2) (by omega)).trans f.2.2⟩
end Go.Proofs.Ytebnekicbcdnaaa
