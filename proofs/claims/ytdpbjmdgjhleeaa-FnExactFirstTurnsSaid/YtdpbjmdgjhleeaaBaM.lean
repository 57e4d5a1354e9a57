/- Plain, Leaf, Conv, Conv2: texts in one. -/
import Derived.Test.YtdpbjmdgjhleeaaChecked
import Derived.WalkKit
import Derived.Lib.Hide
import Derived.BigQuiet
import Derived.Deep.QuietTactic
import Derived.WalkSpells
import Derived.WalkLawsBesides
import Derived.Deep.Draws
import Derived.Deep.RegionHeld3
import Derived.Outline
set_option linter.all false
namespace Go.Proofs.Ytdpbjmdgjhleeaa
open Go.RowKit

theorem ret_int {k : IntKind} {a b : Int} (h : a = b) : Ending.returned (.int k a) = .returned (.int k b) := by rw [h]
theorem ret_bool {a b : Bool} (h : a = b) : Ending.returned (.bool a) = .returned (.bool b) := by rw [h]
theorem ret_ints {k : IntKind} {a b a' b' : Int} (h : a = a') (h' : b = b') : Ending.returned (.tuple #[.int k a, .int k b]) = .returned (.tuple #[.int k a', .int k b']) := by rw [h, h']
/-- The bool that says p. -/
noncomputable def dc (p : Prop) : Bool := @decide p (Classical.propDecidable p)
theorem dc_iff {p : Prop} : dc p = true ↔ p := by unfold dc; simp
theorem dc_true {p : Prop} (h : p) : dc p = true := dc_iff.2 h
theorem dc_false {p : Prop} (h : ¬ p) : dc p = false := by
  cases e : dc p with
  | false => rfl
  | true => exact absurd (dc_iff.1 e) h
theorem ret_dc {b : Bool} {p : Prop} (h : b = true ↔ p) : Ending.returned (.bool b) = .returned (.bool (dc p)) := by
  cases b with
  | false => rw [dc_false (fun hp => by simpa using h.2 hp)]
  | true => rw [dc_true (h.1 rfl)]
/-- It returns the bool that says p; memory that was there stays. -/
def RetB (w : World) (p : Prop) (e : Ending) (w' : World) : Prop := e = .returned (.bool (dc p)) ∧ Below w.heap.size w w'
theorem RetB.mk {w w' : World} {p : Prop} {b : Bool} (h : b = true ↔ p) (hb : Below w.heap.size w w') : RetB w p (.returned (.bool b)) w' := ⟨ret_dc h, hb⟩
theorem RetB.iff {w w' : World} {p q : Prop} {e : Ending} (h : RetB w p e w') (hpq : p ↔ q) : RetB w q e w' := by rw [show p = q from propext hpq] at h; exact h

/-- A world that is below block B as w is. -/
structure Later (B : Nat) (w : World) where
  val : World
  ok : Below B w val
instance (B : Nat) (w : World) : Nonempty (Later B w) := ⟨⟨w, Below.refl B w⟩⟩
theorem callB_yes {P : Program} {f : FuncId} {args : Array Value} {w : World} {p : Prop} (h : Calls P f args w (RetB w p)) (hp : p) : Calls P f args w fun e w' => e = .returned (.bool true) ∧ Below w.heap.size w w' :=
  h.mono fun _ _ ⟨he, hb⟩ => ⟨by rw [he, dc_true hp], hb⟩
theorem callB_no {P : Program} {f : FuncId} {args : Array Value} {w : World} {p : Prop} (h : Calls P f args w (RetB w p)) (hp : ¬ p) : Calls P f args w fun e w' => e = .returned (.bool false) ∧ Below w.heap.size w w' :=
  h.mono fun _ _ ⟨he, hb⟩ => ⟨by rw [he, dc_false hp], hb⟩
/-- A region that draws its order and whose operations leave what lies below block B: one walk in the order of the text serves every order. -/
theorem wp_region_sub {P : Program} {id : Nat} {Q : Exit → Act → World → Prop} {a : Act} {w : World} {l : List Oper} (B : Nat) (hm : P.follows .mixedOrders = true) (hB : Region.lexB .any l.toArray = true)
    (h : wpQuiet P l.toArray (fun w' => ∃ u : Later B w, w' = u.val) (fun a' => ∀ w', (∃ u : Later B w, w' = u.val) → Q .normal a' w') l a) : (Code.region id l.toArray true).wp P Q a w :=
  wp_region_quiet (C := fun w' => ∃ u : Later B w, w' = u.val) hm hB ⟨⟨_, (Below.refl B w).drew⟩, rfl⟩ (by simpa using h)
theorem sub_of {P : Program} {f : FuncId} {args : Array Value} {w : World} {B : Nat} {v : Value} (u : Later B w) (hB : B ≤ w.heap.size)
    (h : Calls P f args u.val fun e w' => e = .returned v ∧ Below u.val.heap.size u.val w') : Calls P f args u.val fun e w'' => e = .returned v ∧ ∃ u' : Later B w, w'' = u'.val :=
  h.mono fun _ w'' ⟨he, hb⟩ => ⟨he, ⟨⟨w'', u.ok.trans (hb.mono (Nat.le_trans hB u.ok.size))⟩, rfl⟩⟩
theorem sub_same {P : Program} {f : FuncId} {args : Array Value} {w : World} {B : Nat} {v : Value} (u : Later B w)
    (h : Calls P f args u.val fun e w' => e = .returned v ∧ u.val = w') : Calls P f args u.val fun e w'' => e = .returned v ∧ ∃ u' : Later B w, w'' = u'.val :=
  h.mono fun _ _ ⟨he, hw⟩ => ⟨he, u, hw.symm⟩

theorem bcell {W w1 : World} (hb : Below W.heap.size W w1) : (∀ b o, b < W.heap.size → w1.cell? ⟨b, o, none⟩ = W.cell? ⟨b, o, none⟩) ∧ (∀ b o, b < W.heap.size → w1.frozen? ⟨b, o, none⟩ = W.frozen? ⟨b, o, none⟩) :=
  ⟨fun b o h => hb.cell (p := ⟨b, o, none⟩) h, fun b o h => hb.frozen (p := ⟨b, o, none⟩) h⟩

structure Sq where
  x : Int
  y : Int
  d : Int
instance : Inhabited Sq := ⟨⟨0, 0, 0⟩⟩
def wfI (n : Int) : Prop := -9223372036854775808 ≤ n ∧ n ≤ 9223372036854775807
def wfS (s : Sq) : Prop := wfI s.x ∧ wfI s.y ∧ wfI s.d
def flat : List Sq → List Value
  | [] => []
  | s :: r => .int .i64 s.x :: .int .i64 s.y :: .int .i64 s.d :: flat r
theorem flat_len (L : List Sq) : (flat L).length = L.length * 3 := by
  induction L with
  | nil => rfl
  | cons s r ih => simp [flat, ih]; omega
theorem flat_app (L M : List Sq) : flat (L ++ M) = flat L ++ flat M := by
  induction L with
  | nil => rfl
  | cons s r ih => simp [flat, ih]
theorem flat_get (L : List Sq) (i : Nat) (s : Sq) (h : L[i]? = some s) : (flat L)[i * 3]? = some (.int .i64 s.x) ∧ (flat L)[i * 3 + 1]? = some (.int .i64 s.y) ∧ (flat L)[i * 3 + 2]? = some (.int .i64 s.d) := by
  induction L generalizing i with
  | nil => simp at h
  | cons t r ih =>
    cases i with
    | zero => simp at h; subst h; exact ⟨rfl, rfl, rfl⟩
    | succ i =>
      have h' : r[i]? = some s := by simpa using h
      have e : (i + 1) * 3 = i * 3 + 3 := by omega
      have := ih i h'
      rw [e]
      simpa [flat] using this
theorem flat_take_succ (L : List Sq) (k : Nat) (s : Sq) (h : L[k]? = some s) : flat (L.take (k + 1)) = flat (L.take k) ++ [.int .i64 s.x, .int .i64 s.y, .int .i64 s.d] := by
  rw [List.take_add_one, h, flat_app]
  rfl
theorem take_set3 (xs : List Value) (k : Nat) (a b c : Value) (h : k * 3 + 3 ≤ xs.length) : (((xs.set (k * 3) a).set (k * 3 + 1) b).set (k * 3 + 2) c).take ((k + 1) * 3) = xs.take (k * 3) ++ [a, b, c] := by
  apply List.ext_getElem?
  intro i
  have hm : min (k * 3) xs.length = k * 3 := by omega
  rw [List.getElem?_take, List.getElem?_append, List.length_take, hm]
  rcases Nat.lt_or_ge i (k * 3) with h1 | h1
  · have h1' : i < (k + 1) * 3 := by omega
    rw [if_pos h1', if_pos h1, List.getElem?_set_ne (by omega), List.getElem?_set_ne (by omega), List.getElem?_set_ne (by omega), List.getElem?_take, if_pos h1]
  · have h1' : ¬ i < k * 3 := by omega
    rw [if_neg h1']
    rcases Nat.lt_or_ge i (k * 3 + 3) with h2 | h2
    · have h2' : i < (k + 1) * 3 := by omega
      rw [if_pos h2']
      rcases (by omega : i = k * 3 ∨ i = k * 3 + 1 ∨ i = k * 3 + 2) with rfl | rfl | rfl
      · rw [List.getElem?_set_ne (by omega), List.getElem?_set_ne (by omega), List.getElem?_set_self (by omega)]; simp
      · rw [List.getElem?_set_ne (by omega), List.getElem?_set_self (by simp; omega)]
        have : k * 3 + 1 - k * 3 = 1 := by omega
        rw [this]; rfl
      · rw [List.getElem?_set_self (by simp; omega)]
        have : k * 3 + 2 - k * 3 = 2 := by omega
        rw [this]; rfl
    · have h2' : ¬ i < (k + 1) * 3 := by omega
      rw [if_neg h2', List.getElem?_eq_none (by simp; omega)]

/-- Square i of a slice at address A lies below block B with its three cells. -/
def SqsAt (w : World) (B : Nat) (A : Option Addr) (L : List Sq) : Prop :=
  ∀ i s, L[i]? = some s → ∃ b off, A = some ⟨b, off, none⟩ ∧ b < B ∧ w.cell? ⟨b, off + i * 3, none⟩ = some (.int .i64 s.x) ∧ w.cell? ⟨b, off + i * 3 + 1, none⟩ = some (.int .i64 s.y) ∧ w.cell? ⟨b, off + i * 3 + 2, none⟩ = some (.int .i64 s.d)
theorem SqsAt.below {w w' : World} {B : Nat} {A : Option Addr} {L : List Sq} (h : SqsAt w B A L) (hb : Below B w w') : SqsAt w' B A L := by
  intro i s hs
  obtain ⟨b, off, e, hB, c0, c1, c2⟩ := h i s hs
  exact ⟨b, off, e, hB, (hb.cell (p := ⟨b, _, none⟩) hB).trans c0, (hb.cell (p := ⟨b, _, none⟩) hB).trans c1, (hb.cell (p := ⟨b, _, none⟩) hB).trans c2⟩
theorem SqsAt.mono {w : World} {B B' : Nat} {A : Option Addr} {L : List Sq} (h : SqsAt w B A L) (hB : B ≤ B') : SqsAt w B' A L := by
  intro i s hs
  obtain ⟨b, off, e, hb, r⟩ := h i s hs
  exact ⟨b, off, e, by omega, r⟩
theorem SqsAt.take {w : World} {B : Nat} {A : Option Addr} {L : List Sq} (h : SqsAt w B A L) (k : Nat) : SqsAt w B A (L.take k) := by
  intro i s hs
  rw [List.getElem?_take] at hs
  split at hs
  · exact h i s hs
  · cases hs

theorem own_below {w w' : World} {base : Nat} {e : TypeId} {size n : Nat} {v : Value} {xs : List Value} {B : Nat} (h : w.ownsRow base e size v n xs) (hb : Below B w w') (hB : ∀ k, v.ownBlock = some k → k < B) : w'.ownsRow base e size v n xs := by
  refine ⟨h.1, ?_⟩
  rcases h.2 with hn | ⟨g, cap, cur, rfl, hg, hh, rest⟩
  · exact .inl hn
  · exact .inr ⟨g, cap, cur, rfl, hg, (hb.block g (hB g rfl)).trans hh, rest⟩
theorem own_keep {w w' : World} {base : Nat} {e : TypeId} {size n : Nat} {v : Value} {xs : List Value} (h : w.ownsRow base e size v n xs) (hb : Below w.heap.size w w') : w'.ownsRow base e size v n xs :=
  own_below h hb fun k hk => (h.lt k hk).2
theorem own_base {w : World} {base base' : Nat} {e : TypeId} {size n : Nat} {v : Value} {xs : List Value} (h : w.ownsRow base e size v n xs) (hb : base' ≤ base) : w.ownsRow base' e size v n xs := by
  refine ⟨h.1, ?_⟩
  rcases h.2 with hn | ⟨g, cap, cur, rfl, hg, rest⟩
  · exact .inl hn
  · exact .inr ⟨g, cap, cur, rfl, by omega, rest⟩
theorem own_lt {w : World} {base : Nat} {e : TypeId} {size n cap g : Nat} {xs : List Value} (h : w.ownsRow base e size (.slice (some ⟨g, 0, none⟩) n cap) n xs) : base ≤ g ∧ g < w.heap.size := h.lt g rfl
theorem own_some {w : World} {base : Nat} {e : TypeId} {size n cap g : Nat} {xs : List Value} (h : w.ownsRow base e size (.slice (some ⟨g, 0, none⟩) n cap) n xs) {j : Nat} (hj : j < n * size) : ∃ v, w.cell? ⟨g, j, none⟩ = some v := by
  rw [h.cellAt j hj]
  exact ⟨_, List.getElem?_eq_getElem (by rw [h.1]; exact hj)⟩
theorem sqs_of_own {w : World} {base : Nat} {A : Option Addr} {n c : Nat} {L : List Sq} (h : w.ownsRow base 85 3 (.slice A n c) n (flat L)) : SqsAt w w.heap.size A L := by
  intro i s hs
  have hl : n = L.length := by have := h.1; rw [flat_len] at this; omega
  have hi : i < L.length := by
    rcases Nat.lt_or_ge i L.length with h' | h'
    · exact h'
    · rw [List.getElem?_eq_none h'] at hs; cases hs
  have h2 := h.2
  rcases h2 with ⟨hn, hn0⟩ | ⟨g, cap, cur, he, _⟩
  · omega
  · cases he
    have f := flat_get L i s hs
    refine ⟨g, 0, rfl, (own_lt h).2, ?_⟩
    simp only [Nat.zero_add]
    exact ⟨(h.cellAt (i * 3) (by omega)).trans f.1, (h.cellAt (i * 3 + 1) (by omega)).trans f.2.1, (h.cellAt (i * 3 + 2) (by omega)).trans f.2.2⟩
end Go.Proofs.Ytdpbjmdgjhleeaa
namespace Go.Proofs.Ytdpbjmdgjhleeaa
open Go.RowKit

def inB (n lo hi : Int) : Bool := decide (lo ≤ n) && decide (n ≤ hi)
theorem inB_iff {n lo hi : Int} : inB n lo hi = true ↔ lo ≤ n ∧ n ≤ hi := by simp [inB]

theorem l1In_any (n lo hi : Int) (w : World) :
    Calls Try.prog 87 #[.int .i64 n, .int .i64 lo, .int .i64 hi] w fun e w' => e = .returned (.bool (inB n lo hi)) ∧ w = w' := by
  by_cases h1 : lo ≤ n
  · have d1 : decide (lo ≤ n) = true := by simpa using h1
    go_enter Try.func87, Try.ntmps87
    go_wp2
    all_goals (go_ret; exact ⟨by simp [inB, d1], rfl⟩)
  · have d1 : decide (lo ≤ n) = false := by simpa using h1
    go_enter Try.func87, Try.ntmps87
    go_wp2
    all_goals (go_ret; exact ⟨by simp [inB, d1], rfl⟩)

theorem isUpTo_any (m n : Int) (w : World) :
    Calls Try.prog 127 #[.int .i64 m, .int .i64 n] w fun e w' => e = .returned (.bool (inB n 1 m)) ∧ w = w' := by
  by_cases h1 : 1 ≤ n
  · have d1 : decide (1 ≤ n) = true := by simpa using h1
    go_enter Try.func127, Try.ntmps127
    go_wp2
    all_goals (go_ret; exact ⟨by simp [inB, d1], rfl⟩)
  · have d1 : decide (1 ≤ n) = false := by simpa using h1
    go_enter Try.func127, Try.ntmps127
    go_wp2
    all_goals (go_ret; exact ⟨by simp [inB, d1], rfl⟩)

theorem areUpTo_any (m a b : Int) (w : World) :
    Calls Try.prog 97 #[.int .i64 m, .int .i64 a, .int .i64 b] w fun e w' => e = .returned (.bool (inB a 1 m && inB b 1 m)) ∧ w = w' := by
  have C := isUpTo_any m a w
  cases ha : inB a 1 m with
  | false =>
    rw [ha] at C
    go_enter Try.func97, Try.ntmps97
    go_wp2_with fail
    refine C.mono ?_
    rintro e w' ⟨rfl, rfl⟩
    go_wp2_with fail
    go_ret
    exact ⟨rfl, rfl⟩
  | true =>
    rw [ha] at C
    go_enter Try.func97, Try.ntmps97
    go_wp2_with fail
    refine C.mono ?_
    rintro e w' ⟨rfl, rfl⟩
    go_wp2_with fail
    refine (isUpTo_any m b _).mono ?_
    rintro e w' ⟨rfl, rfl⟩
    go_wp2_with fail
    go_ret
    exact ⟨by simp, rfl⟩

theorem eqSquare_same (x y d : Int) (w : World) :
    Calls Try.prog 103 #[.agg #[.int .i64 x, .int .i64 y, .int .i64 d], .agg #[.int .i64 x, .int .i64 y, .int .i64 d]] w fun e w' =>
      e = .returned (.bool true) ∧ Below w.heap.size w w' := by
  go_enter Try.func103, Try.ntmps103
  go_wp2
  go_ret
  exact ⟨rfl, ((Below.refl _ _).alloc (Nat.le_refl _) _).alloc (by simp) _⟩

theorem toSquare_any (x y d : Int) (w : World) :
    Calls Try.prog 96 #[.agg #[.int .i64 x, .int .i64 y, .int .i64 d]] w fun e w' =>
      e = .returned (.agg #[.int .i64 x, .int .i64 y, .int .i64 d]) ∧ Below w.heap.size w w' := by
  go_enter Try.func96, Try.ntmps96
  go_wp2
  refine bodyPost_ret (v := .agg #[.int .i64 x, .int .i64 y, .int .i64 d]) (by simp [results, Try.results96, go_sem]) rfl ⟨rfl, ?_⟩
  exact (((Below.refl _ _).alloc (Nat.le_refl _) _).alloc (by simp) _).alloc (by simp; omega) _

theorem isNaN_any (n : Int) (w : World) :
    Calls Try.prog 150 #[.int .i64 n] w fun e w' => e = .returned (.bool false) ∧ w = w' := by
  go_enter Try.func150, Try.ntmps150
  go_wp2
  go_ret
  exact ⟨rfl, rfl⟩

def cmpI (a b : Int) : Int := if a < b then -1 else if b < a then 1 else 0
theorem compare_any (a b : Int) (w : World) :
    Calls Try.prog 125 #[.int .i64 a, .int .i64 b] w fun e w' => e = .returned (.int .i64 (cmpI a b)) ∧ w = w' := by
  go_enter Try.func125, Try.ntmps125
  go_wp2_with (go_at_call 150; refine (isNaN_any _ _).mono ?_; rintro e w' ⟨rfl, rfl⟩)
  all_goals (go_ret; exact ⟨ret_int (by unfold cmpI; (repeat' split) <;> omega), rfl⟩)

theorem isWithin_any (x y d W H : Int) (hW : 0 ≤ W) (hW' : W ≤ 1000000) (hH : 0 ≤ H) (hH' : H ≤ 1000000) (hd : d ≤ 9223372036854775807) (w : World) :
    Calls Try.prog 98 #[.agg #[.int .i64 x, .int .i64 y, .int .i64 d], .int .i64 W, .int .i64 H] w (RetB w (1 ≤ d ∧ 0 ≤ x ∧ x ≤ W - d ∧ 0 ≤ y ∧ y ≤ H - d)) := by
  by_cases h1 : 1 ≤ d
  · by_cases h2 : 0 ≤ x
    · by_cases h3 : x ≤ W - d
      · by_cases h4 : 0 ≤ y
        · by_cases h5 : y ≤ H - d
          · go_enter Try.func98, Try.ntmps98
            go_wp2
            go_ret; exact RetB.mk (by simp [h1, h2, h3, h4, h5]) ((Below.refl _ _).alloc (Nat.le_refl _) _)
          · go_enter Try.func98, Try.ntmps98
            go_wp2
            go_ret; exact RetB.mk (by simp; omega) ((Below.refl _ _).alloc (Nat.le_refl _) _)
        · go_enter Try.func98, Try.ntmps98
          go_wp2
          go_ret; exact RetB.mk (by simp; omega) ((Below.refl _ _).alloc (Nat.le_refl _) _)
      · go_enter Try.func98, Try.ntmps98
        go_wp2
        go_ret; exact RetB.mk (by simp; omega) ((Below.refl _ _).alloc (Nat.le_refl _) _)
    · go_enter Try.func98, Try.ntmps98
      go_wp2
      go_ret; exact RetB.mk (by simp; omega) ((Below.refl _ _).alloc (Nat.le_refl _) _)
  · go_enter Try.func98, Try.ntmps98
    go_wp2
    go_ret; exact RetB.mk (by simp; omega) ((Below.refl _ _).alloc (Nat.le_refl _) _)

def Less (x y x' y' : Int) : Prop := y < y' ∨ y = y' ∧ x < x'
theorem cuLess_any (x y d x' y' d' : Int) (w : World) :
    Calls Try.prog 94 #[.agg #[.int .i64 x, .int .i64 y, .int .i64 d], .agg #[.int .i64 x', .int .i64 y', .int .i64 d']] w (RetB w (Less x y x' y')) := by
  have hB : ∀ a b : Obj, Below w.heap.size w ((w.alloc a).alloc b) := fun a b => ((Below.refl _ _).alloc (Nat.le_refl _) _).alloc (by simp) _
  rcases Int.lt_trichotomy y y' with h | h | h
  · go_enter Try.func94, Try.ntmps94
    go_wp2
    all_goals (go_ret; exact RetB.mk (by simp [Less]; omega) (hB _ _))
  · subst h
    by_cases h : x < x'
    · go_enter Try.func94, Try.ntmps94
      go_wp2
      all_goals (go_ret; exact RetB.mk (by simp [Less]; omega) (hB _ _))
    · go_enter Try.func94, Try.ntmps94
      go_wp2
      all_goals (go_ret; exact RetB.mk (by simp [Less]; omega) (hB _ _))
  · have h1 : ¬ y < y' := by omega
    have h2 : (y == y') = false := by simp; omega
    go_enter Try.func94, Try.ntmps94
    go_wp2
    all_goals (go_ret; exact RetB.mk (by simp [Less]; omega) (hB _ _))

def lapX (x d x' d' : Int) : Int := min (x + d) (x' + d') - max x x'
theorem commonLengths_any (x y d x' y' d' : Int) (hx : 0 ≤ x) (hx1 : x ≤ 1000000) (hy : 0 ≤ y) (hy1 : y ≤ 1000000) (hd : 0 ≤ d) (hd1 : d ≤ 1000000)
    (kx : 0 ≤ x') (kx1 : x' ≤ 1000000) (ky : 0 ≤ y') (ky1 : y' ≤ 1000000) (kd : 0 ≤ d') (kd1 : d' ≤ 1000000) (w : World) :
    Calls Try.prog 128 #[.agg #[.int .i64 x, .int .i64 y, .int .i64 d], .agg #[.int .i64 x', .int .i64 y', .int .i64 d']] w fun e w' =>
      e = .returned (.tuple #[.int .i64 (lapX x d x' d'), .int .i64 (lapX y d y' d')]) ∧ Below w.heap.size w w' := by
  go_enter Try.func128, Try.ntmps128
  go_wp2
  all_goals (go_ret2; exact ⟨ret_ints (by unfold lapX; omega) (by unfold lapX; omega), ((Below.refl _ _).alloc (Nat.le_refl _) _).alloc (by simp) _⟩)

def orI (a b : Int) : Int := if a = 0 then b else a
theorem or_any (a b : Int) (g : Nat) (w : World) (ha : w.cell? ⟨g, 0, none⟩ = some (.int .i64 a)) (hb : w.cell? ⟨g, 1, none⟩ = some (.int .i64 b)) :
    Calls Try.prog 129 #[.slice (some ⟨g, 0, none⟩) 2 2] w fun e w' => e = .returned (.int .i64 (orI a b)) ∧ w = w' := by
  by_cases h : a = 0
  · subst h
    rw [show orI 0 b = b from rfl]
    by_cases h : b = 0
    · subst h
      go_enter Try.func129, Try.ntmps129
      go_wp2
      refine wp_loop_rounds 3 ?_
      rw [rounds_succ]
      go_wp2
      rw [rounds_succ]
      go_wp2
      rw [rounds_succ]
      go_wp2
      go_ret
      exact ⟨rfl, rfl⟩
    · have hq : (b != 0) = true := by simpa using h
      go_enter Try.func129, Try.ntmps129
      go_wp2
      refine wp_loop_rounds 2 ?_
      rw [rounds_succ]
      go_wp2
      rw [rounds_succ]
      go_wp2
      go_ret
      exact ⟨rfl, rfl⟩
  · rw [show orI a b = a from if_neg h]
    have hq : (a != 0) = true := by simpa using h
    go_enter Try.func129, Try.ntmps129
    go_wp2
    refine wp_loop_rounds 1 ?_
    rw [rounds_succ]
    go_wp2
    go_ret
    exact ⟨rfl, rfl⟩
end Go.Proofs.Ytdpbjmdgjhleeaa
namespace Go.Proofs.Ytdpbjmdgjhleeaa
open Go.RowKit

theorem infoSq : (Try.prog.info? 85).map (fun i => (i.zero, i.size, i.bytes)) = some (some (.agg #[.int .i64 0, .int .i64 0, .int .i64 0]), 3, 24) := by kernel_rfl

/-- A slice of squares of the call's own that reads as L. -/
def OwnSqs (w w' : World) (L : List Sq) (e : Ending) : Prop := ∃ g, e = .returned (.slice (some ⟨g, 0, none⟩) L.length L.length) ∧ Below w.heap.size w w' ∧ w'.ownsRow w.heap.size 85 3 (.slice (some ⟨g, 0, none⟩) L.length L.length) L.length (flat L)

set_option maxRecDepth 100000 in
theorem toSquareS_any (A : Option Addr) (n c : Nat) (L : List Sq) (w : World) (hl : L.length = n) (hn : n ≤ c) (hreach : n ≤ 1048576) (hL : SqsAt w w.heap.size A L) :
    Calls Try.prog 49 #[.slice A n c] w fun e w' => OwnSqs w w' L e := by
  obtain ⟨i0, hi, hz0, hz1, hz2⟩ := info_parts infoSq
  go_enter Try.func49, Try.ntmps49
  go_wp2_with (at_make; refine wpList_make_full _ rfl _ _ 26 rfl w.heap.size 85 i0 (.agg #[.int .i64 0, .int .i64 0, .int .i64 0]) 3 Try.underlying26 hi hz0 hz1 .i64 .i64 n n n rfl rfl rfl rfl (by rw [hz2]; omega) (by unfold maxLen; omega) (Nat.le_refl _) ?_; intro w1 hown hgrow)
  have hb1 : Below w.heap.size w w1 := (Below.refl _ w).grown hgrow (Nat.le_refl _) (by simp)
  clear hgrow
  obtain ⟨g, hg⟩ : ∃ g, g = w.heap.size := ⟨_, rfl⟩
  rw [← hg] at hown hb1 ⊢
  have hBg := Lib.hid hg
  clear hg
  go_loopw [4] (fun i wr => ∃ k : Nat, k ≤ n ∧ i = .int .i64 k ∧ ∃ xs, wr.ownsRow g 85 3 (.slice (some ⟨g, 0, none⟩) n n) n xs ∧ xs.take (k * 3) = flat (L.take k) ∧ Below g w wr) (fun i _ => n - (intOf i).toNat)
  case atStart => exact ⟨0, Nat.zero_le _, rfl, _, hown, by simp [flat], hb1⟩
  case round =>
    obtain ⟨k, hk, rfl, xs, hown1, htake, hbr⟩ := hrel
    by_cases hlt : k < n
    · have HL := Lib.hid hl
      have HT := Lib.hid htake
      clear hl htake hown hb1 w1
      obtain ⟨s, hs⟩ : ∃ s, L[k]? = some s := ⟨_, List.getElem?_eq_getElem (by rw [HL.out]; exact hlt)⟩
      obtain ⟨b, off, rfl, hb, c0, c1, c2⟩ := hL k s hs
      rw [← hBg.out] at hb
      have HS := Lib.hid hs
      clear hs hL
      have c0' := (hbr.cell (p := ⟨b, off + k * 3, none⟩) hb).trans c0
      have c1' := (hbr.cell (p := ⟨b, off + k * 3 + 1, none⟩) hb).trans c1
      have c2' := (hbr.cell (p := ⟨b, off + k * 3 + 2, none⟩) hb).trans c2
      clear c0 c1 c2
      go_wp2_with fail
      refine (toSquare_any _ _ _ _).mono ?_
      rintro e w2 ⟨rfl, hb2⟩
      have hown2 := own_keep hown1 hb2
      obtain ⟨v0, e0⟩ := own_some hown2 (j := k * 3) (by omega)
      obtain ⟨v1, e1⟩ := own_some hown2 (j := k * 3 + 1) (by omega)
      obtain ⟨v2, e2⟩ := own_some hown2 (j := k * 3 + 2) (by omega)
      have f0 := hown2.frozenAt (k * 3)
      have f1 := hown2.frozenAt (k * 3 + 1)
      have f2 := hown2.frozenAt (k * 3 + 2)
      go_wp2_with fail
      have hx := hown1.1
      have R := ((((hown2.stored (k * 3) (.int .i64 s.x)).1).stored (k * 3 + 1) (.int .i64 s.y)).1.stored (k * 3 + 2) (.int .i64 s.d)).1
      have hgl := own_lt hown1
      have hB := (((hbr.trans (hb2.mono (by omega))).setCell (p := ⟨g, k * 3, none⟩) (Nat.le_refl _) (.int .i64 s.x)).setCell (p := ⟨g, k * 3 + 1, none⟩) (Nat.le_refl _) (.int .i64 s.y)).setCell (p := ⟨g, k * 3 + 2, none⟩) (Nat.le_refl _) (.int .i64 s.d)
      go_roundw
      case rel => exact ⟨k + 1, by omega, by go_num, _, R, by rw [take_set3 _ _ _ _ _ (by omega), HT.out, flat_take_succ L k s HS.out], hB⟩
      case measure => simp [intOf]; omega
    · obtain rfl : k = n := by omega
      subst hl
      have hx := hown1.1
      rw [List.take_of_length_le (by omega), List.take_of_length_le (Nat.le_refl _)] at htake
      subst htake
      go_wp2_with fail
      go_ret
      exact ⟨g, rfl, by rw [← hBg.out]; exact hbr, by rw [← hBg.out]; exact hown1⟩

theorem eqSquareS_same (A A' : Option Addr) (n c c' : Nat) (L : List Sq) (w : World) (hl : L.length = n) (hn : n ≤ 1048576) (_hc : n ≤ c) (_hc' : n ≤ c') (hL : SqsAt w w.heap.size A L) (hL' : SqsAt w w.heap.size A' L) :
    Calls Try.prog 52 #[.slice A n c, .slice A' n c'] w fun e w' => e = .returned (.bool true) ∧ Below w.heap.size w w' := by
  go_enter Try.func52, Try.ntmps52
  go_wp2_with fail
  obtain ⟨g, hg⟩ : ∃ g, g = w.heap.size := ⟨_, rfl⟩
  rw [← hg] at hL hL'
  have hBg := Lib.hid hg
  clear hg
  go_loopw [5] (fun i wr => ∃ k : Nat, k ≤ n ∧ i = .int .i64 k ∧ Below g w wr) (fun i _ => n - (intOf i).toNat)
  case atStart => exact ⟨0, Nat.zero_le _, rfl, Below.refl _ _⟩
  case round =>
    obtain ⟨k, hk, rfl, hbr⟩ := hrel
    by_cases hlt : k < n
    · obtain ⟨s, hs⟩ : ∃ s, L[k]? = some s := ⟨_, List.getElem?_eq_getElem (by rw [hl]; exact hlt)⟩
      have hLw := hL.below hbr
      have hLw' := hL'.below hbr
      clear hL hL'
      obtain ⟨b, off, rfl, hb, c0, c1, c2⟩ := hLw k s hs
      obtain ⟨b', off', rfl, hb', d0, d1, d2⟩ := hLw' k s hs
      clear hLw hLw' hs hl
      have hsz : g ≤ wr.heap.size := by have := hbr.size; rw [hBg.out]; omega
      go_wp2_with fail
      have C0 : ∀ u : Later g wr, u.val.cell? ⟨b, off + k * 3, none⟩ = some (.int .i64 s.x) := fun u => (u.ok.cell (p := ⟨b, _, none⟩) hb).trans c0
      have C1 : ∀ u : Later g wr, u.val.cell? ⟨b, off + k * 3 + 1, none⟩ = some (.int .i64 s.y) := fun u => (u.ok.cell (p := ⟨b, _, none⟩) hb).trans c1
      have C2 : ∀ u : Later g wr, u.val.cell? ⟨b, off + k * 3 + 2, none⟩ = some (.int .i64 s.d) := fun u => (u.ok.cell (p := ⟨b, _, none⟩) hb).trans c2
      have D0 : ∀ u : Later g wr, u.val.cell? ⟨b', off' + k * 3, none⟩ = some (.int .i64 s.x) := fun u => (u.ok.cell (p := ⟨b', _, none⟩) hb').trans d0
      have D1 : ∀ u : Later g wr, u.val.cell? ⟨b', off' + k * 3 + 1, none⟩ = some (.int .i64 s.y) := fun u => (u.ok.cell (p := ⟨b', _, none⟩) hb').trans d1
      have D2 : ∀ u : Later g wr, u.val.cell? ⟨b', off' + k * 3 + 2, none⟩ = some (.int .i64 s.d) := fun u => (u.ok.cell (p := ⟨b', _, none⟩) hb').trans d2
      have k0 : (0 : Int) ≤ (k : Int) := by omega
      have k1 : (k : Int) < (n : Int) := by omega
      refine wp_region_sub g (by kernel_rfl) (by kernel_rfl) ?_
      repeat (first | go_big_quiet_step ((go_at_call 103; exact sub_of _ hsz (eqSquare_same s.x s.y s.d _))) | quiet_step ((go_at_call 103; exact sub_of _ hsz (eqSquare_same s.x s.y s.d _))))
      refine wpQuiet_nil ?_
      rintro _ ⟨⟨w2, hb2⟩, rfl⟩
      go_wp2_with fail
      go_roundw
      case rel => exact ⟨k + 1, by omega, by go_num, hbr.trans hb2⟩
      case measure => simp [intOf]; omega
    · go_wp2_with fail
      go_ret
      exact ⟨rfl, by rw [← hBg.out]; exact hbr⟩
end Go.Proofs.Ytdpbjmdgjhleeaa
namespace Go.Proofs.Ytdpbjmdgjhleeaa
open Go.RowKit

/-- A cut of the call's own that reads as W, H, L. -/
def OwnCut (w w' : World) (W H : Int) (L : List Sq) (e : Ending) : Prop := ∃ g, e = .returned (.agg #[.int .i64 W, .int .i64 H, .slice (some ⟨g, 0, none⟩) L.length L.length]) ∧ Below w.heap.size w w' ∧ w'.ownsRow w.heap.size 85 3 (.slice (some ⟨g, 0, none⟩) L.length L.length) L.length (flat L)

theorem szSquareS_ok (A : Option Addr) (n c : Nat) (left : Int) (w : World) (h1 : left ≤ 1048576) (h : (n : Int) ≤ left) :
    Calls Try.prog 46 #[.slice A n c, .int .i64 left] w fun e w' => e = .returned (.int .i64 (left - n)) ∧ w = w' := by
  have h' : ¬ left - n < 0 := by omega
  go_enter Try.func46, Try.ntmps46
  go_wp2
  go_ret
  exact ⟨rfl, rfl⟩
theorem szSquareS_over (A : Option Addr) (n c : Nat) (left : Int) (w : World) (h0 : 0 ≤ left) (h : left < n) (hn : n ≤ 9223372036854775807) :
    Calls Try.prog 46 #[.slice A n c, .int .i64 left] w fun e w' => e = .returned (.int .i64 (-1)) ∧ w = w' := by
  have h' : left - n < 0 := by omega
  go_enter Try.func46, Try.ntmps46
  go_wp2
  go_ret
  exact ⟨rfl, rfl⟩

theorem szCut_ok (W H : Int) (A : Option Addr) (n c : Nat) (w : World) (hn : n ≤ 1048576) :
    Calls Try.prog 13 #[.agg #[.int .i64 W, .int .i64 H, .slice A n c], .int .i64 1048576] w fun e w' => e = .returned (.int .i64 (1048576 - n)) ∧ Below w.heap.size w w' := by
  have h' : ¬ (1048576 : Int) - n < 0 := by omega
  go_enter Try.func13, Try.ntmps13
  go_wp2_with fail
  refine (szSquareS_ok A n c _ _ (by omega) (by omega)).mono ?_
  rintro e w' ⟨rfl, rfl⟩
  go_wp2
  go_ret
  exact ⟨rfl, (Below.refl _ _).alloc (Nat.le_refl _) _⟩
theorem szCut_over (W H : Int) (A : Option Addr) (n c : Nat) (w : World) (h : 1048576 < n) (hn : n ≤ 9223372036854775807) :
    Calls Try.prog 13 #[.agg #[.int .i64 W, .int .i64 H, .slice A n c], .int .i64 1048576] w fun e w' => e = .returned (.int .i64 (-1)) ∧ Below w.heap.size w w' := by
  go_enter Try.func13, Try.ntmps13
  go_wp2_with fail
  refine (szSquareS_over A n c _ _ (by omega) (by omega) hn).mono ?_
  rintro e w' ⟨rfl, rfl⟩
  go_wp2
  go_ret
  exact ⟨rfl, (Below.refl _ _).alloc (Nat.le_refl _) _⟩

theorem toCut_any (W H : Int) (A : Option Addr) (n c : Nat) (L : List Sq) (w : World) (hl : L.length = n) (hn : n ≤ c) (hreach : n ≤ 1048576) (hL : SqsAt w w.heap.size A L) :
    Calls Try.prog 15 #[.agg #[.int .i64 W, .int .i64 H, .slice A n c]] w fun e w' => OwnCut w w' W H L e := by
  subst hl
  go_enter Try.func15, Try.ntmps15
  go_wp2_with fail
  have hb0 : Below w.heap.size w (((w.alloc (.cells #[.int .i64 W, .int .i64 H, .slice A L.length c] 24)).alloc (.cells #[.int .i64 0, .int .i64 0, .slice none 0 0] 28)).alloc (.cells #[.int .i64 W, .int .i64 H, .slice none 0 0] 28)) :=
    (((Below.refl _ _).alloc (Nat.le_refl _) _).alloc (by simp) _).alloc (by simp; omega) _
  refine (toSquareS_any A _ c L _ rfl hn hreach ((hL.below hb0).mono hb0.size)).mono ?_
  rintro e w3 ⟨g, rfl, hb, hown⟩
  have hb1 := hb0.trans (hb.mono hb0.size)
  obtain ⟨hc, hf⟩ := bcell hb
  have hz := hb.size
  simp only [World.size_alloc] at hc hf hz hown
  have hgl := own_lt hown
  go_wp2_with fail
  refine bodyPost_ret (v := .agg #[.int .i64 W, .int .i64 H, .slice (some ⟨g, 0, none⟩) L.length L.length]) (by simp [results, Try.results15, go_sem, hc]) rfl ⟨g, rfl, ?_, ?_⟩
  · exact (((hb1.setCell (by simp; omega) _).setCell (by simp) _).setCell (by simp) _).setCell (by simp) _
  · refine own_base ?_ (show w.heap.size ≤ w.heap.size + 1 + 1 + 1 by omega)
    exact ownsRow_setCell_below (ownsRow_setCell_below (ownsRow_setCell_below (ownsRow_setCell_below hown (by simp) _) (by simp <;> omega) _) (by simp <;> omega) _) (by simp <;> omega) _

theorem eqCut_same (W H : Int) (A A' : Option Addr) (n c c' : Nat) (L : List Sq) (w : World) (hl : L.length = n) (hn : n ≤ 1048576) (hc : n ≤ c) (hc' : n ≤ c') (hL : SqsAt w w.heap.size A L) (hL' : SqsAt w w.heap.size A' L) :
    Calls Try.prog 17 #[.agg #[.int .i64 W, .int .i64 H, .slice A n c], .agg #[.int .i64 W, .int .i64 H, .slice A' n c']] w fun e w' => e = .returned (.bool true) ∧ Below w.heap.size w w' := by
  subst hl
  go_enter Try.func17, Try.ntmps17
  go_wp2_with fail
  have hb0 : Below w.heap.size w ((w.alloc (.cells #[.int .i64 W, .int .i64 H, .slice A L.length c] 28)).alloc (.cells #[.int .i64 W, .int .i64 H, .slice A' L.length c'] 28)) :=
    ((Below.refl _ _).alloc (Nat.le_refl _) _).alloc (by simp) _
  refine (eqSquareS_same A A' _ c c' L _ rfl hn hc hc' ((hL.below hb0).mono hb0.size) ((hL'.below hb0).mono hb0.size)).mono ?_
  rintro e w3 ⟨rfl, hb⟩
  have hb1 := hb0.trans (hb.mono hb0.size)
  go_wp2_with fail
  go_ret
  exact ⟨rfl, hb1⟩
end Go.Proofs.Ytdpbjmdgjhleeaa
