/- BesideCuts of the program. -/
import Derived.Test.YtilneimiedfjnaaMoved
import Derived.Test.YtilneimiedfjnaaScale
import Derived.Test.YtilneimiedfjnaaRat
import Derived.Test.YtilneimiedfjnaaLast
import Derived.Deep.DeepCutAuto
set_option linter.all false
namespace Go.Proofs.Ytilneimiedfjnaa
open Go.RowKit

/-- What is made of squares in whichever order: the cut's numbers, its squares, and whether there is one. -/
noncomputable def Mk (X Y : Int) (L : List Sq) : Int × Int × List Sq × Bool := (cutX X Y (srt L) X, cutX X Y (srt L) Y, ifGood X Y (srt L) (srt L), dc (Good X Y (srt L)))
def noT : Int × Int × List Sq × Bool := (0, 0, [], false)
def RetT (w : World) (t : Int × Int × List Sq × Bool) (e : Ending) (w' : World) : Prop := RetCut w t.1 t.2.1 t.2.2.1 t.2.2.2 e w'
theorem RetT.no {w w' : World} (hb : Below w.heap.size w w') : RetT w noT (.returned (.tuple #[.agg #[.int .i64 0, .int .i64 0, .slice none 0 0], .bool false])) w' := RetCut.none_ hb
theorem Mk_perm {X Y : Int} {L M : List Sq} (h : L.Perm M) : Mk X Y L = Mk X Y M := by
  obtain ⟨h1, h2, h3⟩ := make_perm (W := X) (H := Y) h X
  obtain ⟨h4, _, _⟩ := make_perm (W := X) (H := Y) h Y
  simp only [Mk, h1, h2, h3, h4]
theorem Mk_yes {X Y : Int} {L : List Sq} (h : Fill X Y L) : Mk X Y L = (X, Y, srt L, true) := by
  have g := good_srt h
  simp only [Mk, cutX_yes g, ifGood_yes g, dc_true g]
theorem Mk_no {X Y : Int} {L : List Sq} (h : ¬ Fill X Y L) : Mk X Y L = noT := by
  have g : ¬ Good X Y (srt L) := fun k => h (fill_srt.1 k)
  simp only [Mk, cutX_no g, ifGood_no g, dc_false g, noT]
theorem Mk_len (X Y : Int) (L : List Sq) : (Mk X Y L).2.2.1.length ≤ 30 := by
  by_cases h : Fill X Y L
  · rw [Mk_yes h]; show (srt L).length ≤ 30; rw [srt_len]; exact h.n.2
  · rw [Mk_no h]; simp [noT]
def gd (a b : Int) : Int := (Nat.gcd a.toNat b.toNat : Nat)
noncomputable def beT (W H : Int) (L : List Sq) (V G : Int) (M : List Sq) : Int × Int × List Sq × Bool :=
  if dc (Good W H L ∧ Good V G M) then Mk (W * (G / gd H G) + V * (H / gd H G)) (H * (G / gd H G)) (J.beL W (G / gd H G) (H / gd H G) L M) else noT
noncomputable def unT (W H : Int) (L : List Sq) (V G : Int) (M : List Sq) : Int × Int × List Sq × Bool :=
  if dc (Good W H L ∧ Good V G M) then Mk (W * (V / gd W V)) (H * (V / gd W V) + G * (W / gd W V)) (J.unL H (V / gd W V) (W / gd W V) L M) else noT
theorem beT_no {W H V G : Int} {L M : List Sq} (h : ¬ (Good W H L ∧ Good V G M)) : beT W H L V G M = noT := by simp [beT, dc_false h]
theorem unT_no {W H V G : Int} {L M : List Sq} (h : ¬ (Good W H L ∧ Good V G M)) : unT W H L V G M = noT := by simp [unT, dc_false h]
theorem beT_yes {W H V G : Int} {L M : List Sq} (h : Good W H L) (k : Good V G M) : beT W H L V G M = Mk (W * (G / gd H G) + V * (H / gd H G)) (H * (G / gd H G)) (J.beL W (G / gd H G) (H / gd H G) L M) := by simp [beT, dc_true (And.intro h k)]
theorem unT_yes {W H V G : Int} {L M : List Sq} (h : Good W H L) (k : Good V G M) : unT W H L V G M = Mk (W * (V / gd W V)) (H * (V / gd W V) + G * (W / gd W V)) (J.unL H (V / gd W V) (W / gd W V) L M) := by simp [unT, dc_true (And.intro h k)]
theorem gd_fit {a b : Int} (ha : 1 ≤ a ∧ a ≤ 500) (hb : 1 ≤ b ∧ b ≤ 500) : (1 ≤ a / gd a b ∧ a / gd a b ≤ 500) ∧ (1 ≤ b / gd a b ∧ b / gd a b ≤ 500) ∧ 1 ≤ gd a b := by
  have g1 : 1 ≤ Nat.gcd a.toNat b.toNat := Nat.gcd_pos_of_pos_left _ (by omega)
  have g2 : Nat.gcd a.toNat b.toNat ≤ a.toNat := Nat.gcd_le_left _ (by omega)
  have g3 : Nat.gcd a.toNat b.toNat ≤ b.toNat := Nat.gcd_le_right _ (by omega)
  unfold gd
  refine ⟨⟨?_, Int.le_trans (Int.ediv_le_self _ (by omega)) ha.2⟩, ⟨?_, Int.le_trans (Int.ediv_le_self _ (by omega)) hb.2⟩, by omega⟩
  · exact (Int.le_ediv_iff_mul_le (by omega)).2 (by omega)
  · exact (Int.le_ediv_iff_mul_le (by omega)).2 (by omega)
theorem lowest_i (a b : Int) (w : World) (ha : 1 ≤ a ∧ a ≤ 500) (hb : 1 ≤ b ∧ b ≤ 500) :
    Calls Try.prog 68 #[.int .i64 a, .int .i64 b] w fun e w' => e = .returned (.tuple #[.int .i64 (a / gd a b), .int .i64 (b / gd a b)]) ∧ Below w.heap.size w w' := by
  obtain ⟨a, rfl⟩ : ∃ k : Nat, a = k := ⟨a.toNat, by omega⟩
  obtain ⟨b, rfl⟩ : ∃ k : Nat, b = k := ⟨b.toNat, by omega⟩
  exact lowest_any a b w (by omega) (by omega)
/-- Two boxes of cuts and a box for the result. -/
structure BB (w : World) (W H : Int) (A : Option Addr) (n c : Nat) (V G : Int) (A' : Option Addr) (n' c' : Nat) (wr : World) : Prop where
  below : Below w.heap.size w wr
  size : w.heap.size + 3 ≤ wr.heap.size
  a : Bx w.heap.size wr W H A n c
  b : Bx (w.heap.size + 1) wr V G A' n' c'
  r : Bx (w.heap.size + 2) wr 0 0 none 0 0
  fz : ∀ b o, w.heap.size ≤ b → b < w.heap.size + 3 → wr.frozen? ⟨b, o, none⟩ = false
theorem BB.next {w wr w' : World} {W H : Int} {A : Option Addr} {n c : Nat} {V G : Int} {A' : Option Addr} {n' c' : Nat} (h : BB w W H A n c V G A' n' c' wr) (hb : Below wr.heap.size wr w') : BB w W H A n c V G A' n' c' w' :=
  have hs := h.size
  ⟨h.below.trans (hb.mono (by omega)), Nat.le_trans h.size hb.size, h.a.next hb, h.b.next hb, h.r.next hb, fun b o h1 h2 => (hb.frozen (p := ⟨b, o, none⟩) (by show b < _; omega)).trans (h.fz b o h1 h2)⟩
theorem BB.start (w : World) (W H : Int) (A : Option Addr) (n c : Nat) (V G : Int) (A' : Option Addr) (n' c' : Nat) :
    BB w W H A n c V G A' n' c' (((w.alloc (.cells #[.int .i64 W, .int .i64 H, .slice A n c] 29)).alloc (.cells #[.int .i64 V, .int .i64 G, .slice A' n' c'] 29)).alloc (.cells #[.int .i64 0, .int .i64 0, .slice none 0 0] 29)) := by
  have h1 : Below w.heap.size w (w.alloc (.cells #[.int .i64 W, .int .i64 H, .slice A n c] 29)) := (Below.refl _ _).alloc (Nat.le_refl _) _
  have a1 := Bx.start w W H A n c 29
  have f1 : ∀ o, (w.alloc (.cells #[.int .i64 W, .int .i64 H, .slice A n c] 29)).frozen? ⟨w.heap.size, o, none⟩ = false := fun o => World.frozen?_alloc_at _ _ _ _ rfl
  have z1 : (w.alloc (.cells #[.int .i64 W, .int .i64 H, .slice A n c] 29)).heap.size = w.heap.size + 1 := by simp
  generalize w.alloc (.cells #[.int .i64 W, .int .i64 H, .slice A n c] 29) = u at *
  have h2 : Below u.heap.size u (u.alloc (.cells #[.int .i64 V, .int .i64 G, .slice A' n' c'] 29)) := (Below.refl _ _).alloc (Nat.le_refl _) _
  have a2 := Bx.start u V G A' n' c' 29
  have f2 : ∀ o, (u.alloc (.cells #[.int .i64 V, .int .i64 G, .slice A' n' c'] 29)).frozen? ⟨u.heap.size, o, none⟩ = false := fun o => World.frozen?_alloc_at _ _ _ _ rfl
  have z2 : (u.alloc (.cells #[.int .i64 V, .int .i64 G, .slice A' n' c'] 29)).heap.size = u.heap.size + 1 := by simp
  have a1 := a1.next h2
  have g1 : ∀ o, (u.alloc (.cells #[.int .i64 V, .int .i64 G, .slice A' n' c'] 29)).frozen? ⟨w.heap.size, o, none⟩ = false := fun o => (h2.frozen (p := ⟨w.heap.size, o, none⟩) (by show w.heap.size < _; omega)).trans (f1 o)
  generalize u.alloc (.cells #[.int .i64 V, .int .i64 G, .slice A' n' c'] 29) = v at *
  have h3 : Below v.heap.size v (v.alloc (.cells #[.int .i64 0, .int .i64 0, .slice none 0 0] 29)) := (Below.refl _ _).alloc (Nat.le_refl _) _
  have a3 := Bx.start v 0 0 none 0 0 29
  have f3 : ∀ o, (v.alloc (.cells #[.int .i64 0, .int .i64 0, .slice none 0 0] 29)).frozen? ⟨v.heap.size, o, none⟩ = false := fun o => World.frozen?_alloc_at _ _ _ _ rfl
  have z3 : (v.alloc (.cells #[.int .i64 0, .int .i64 0, .slice none 0 0] 29)).heap.size = v.heap.size + 1 := by simp
  have a1 := a1.next h3
  have a2 := a2.next h3
  have g1' : ∀ o, (v.alloc (.cells #[.int .i64 0, .int .i64 0, .slice none 0 0] 29)).frozen? ⟨w.heap.size, o, none⟩ = false := fun o => (h3.frozen (p := ⟨w.heap.size, o, none⟩) (by show w.heap.size < _; omega)).trans (g1 o)
  have g2' : ∀ o, (v.alloc (.cells #[.int .i64 0, .int .i64 0, .slice none 0 0] 29)).frozen? ⟨u.heap.size, o, none⟩ = false := fun o => (h3.frozen (p := ⟨u.heap.size, o, none⟩) (by show u.heap.size < _; omega)).trans (f2 o)
  rw [z1] at a2 g2'
  rw [z2, z1] at a3 f3
  refine ⟨h1.trans ((h2.mono (by omega)).trans (h3.mono (by omega))), by omega, a1, a2, a3, fun b o hb1 hb2 => ?_⟩
  rcases (by omega : b = w.heap.size ∨ b = w.heap.size + 1 ∨ b = w.heap.size + 2) with rfl | rfl | rfl
  · exact g1' o
  · exact g2' o
  · exact f3 o
/-- The result's box takes a cut's numbers: what the call leaves. -/
theorem BB.done {w w' : World} {W H : Int} {A : Option Addr} {n c : Nat} {V G : Int} {A' : Option Addr} {n' c' : Nat} (h : BB w W H A n c V G A' n' c' w') {X Y : Int} {A3 : Option Addr} {R : List Sq} {c3 base : Nat}
    (ho : w'.ownsRow base 65 3 (.slice A3 R.length c3) R.length (flat R)) (hb : w.heap.size + 3 ≤ base) :
    Below w.heap.size w (((w'.setCell ⟨w.heap.size + 2, 0, none⟩ (.int .i64 X)).setCell ⟨w.heap.size + 2, 1, none⟩ (.int .i64 Y)).setCell ⟨w.heap.size + 2, 2, none⟩ (.slice A3 R.length c3)) ∧
    (((w'.setCell ⟨w.heap.size + 2, 0, none⟩ (.int .i64 X)).setCell ⟨w.heap.size + 2, 1, none⟩ (.int .i64 Y)).setCell ⟨w.heap.size + 2, 2, none⟩ (.slice A3 R.length c3)).ownsRow w.heap.size 65 3 (.slice A3 R.length c3) R.length (flat R) :=
  ⟨((h.below.setCell (p := ⟨w.heap.size + 2, 0, none⟩) (by simp) _).setCell (p := ⟨w.heap.size + 2, 1, none⟩) (by simp) _).setCell (p := ⟨w.heap.size + 2, 2, none⟩) (by simp) _,
    own_base (ownsRow_setCell_below (ownsRow_setCell_below (ownsRow_setCell_below ho (a := ⟨w.heap.size + 2, 0, none⟩) (by simp; omega) (.int .i64 X)) (a := ⟨w.heap.size + 2, 1, none⟩) (by simp; omega) (.int .i64 Y)) (a := ⟨w.heap.size + 2, 2, none⟩) (by simp; omega) (.slice A3 R.length c3)) (by omega)⟩
theorem BB.put {w w5 : World} {W H : Int} {A : Option Addr} {n c : Nat} {V G : Int} {A' : Option Addr} {n' c' : Nat} (h : BB w W H A n c V G A' n' c' w5) (W2 H2 : Int) (A2 : Option Addr) (n2 c2 : Nat) (V2 G2 : Int) (A3 : Option Addr) (n3 c3 : Nat) :
    BB w W2 H2 A2 n2 c2 V2 G2 A3 n3 c3 ((((((w5.setCell ⟨w.heap.size, 0, none⟩ (.int .i64 W2)).setCell ⟨w.heap.size, 1, none⟩ (.int .i64 H2)).setCell ⟨w.heap.size, 2, none⟩ (.slice A2 n2 c2)).setCell ⟨w.heap.size + 1, 0, none⟩ (.int .i64 V2)).setCell ⟨w.heap.size + 1, 1, none⟩ (.int .i64 G2)).setCell ⟨w.heap.size + 1, 2, none⟩ (.slice A3 n3 c3)) := by
  have hs := h.size
  obtain ⟨la, a0, a1, a2⟩ := h.a
  obtain ⟨lb, b0, b1, b2⟩ := h.b
  obtain ⟨lr, r0, r1, r2⟩ := h.r
  have f := h.fz
  refine ⟨(((((h.below.setCell (p := ⟨w.heap.size, 0, none⟩) (Nat.le_refl _) _).setCell (p := ⟨w.heap.size, 1, none⟩) (Nat.le_refl _) _).setCell (p := ⟨w.heap.size, 2, none⟩) (Nat.le_refl _) _).setCell (p := ⟨w.heap.size + 1, 0, none⟩) (by simp) _).setCell (p := ⟨w.heap.size + 1, 1, none⟩) (by simp) _).setCell (p := ⟨w.heap.size + 1, 2, none⟩) (by simp) _, by simpa using hs, ⟨by simpa using la, ?_, ?_, ?_⟩, ⟨by simpa using lb, ?_, ?_, ?_⟩, ⟨by simpa using lr, ?_, ?_, ?_⟩, fun b o h1 h2 => ?_⟩
  all_goals (try (simp [go_sem, a0, a1, a2, b0, b1, b2, r0, r1, r2]; done))
  have := f b o h1 h2
  simp [go_sem, this]
theorem own_put6 {w5 : World} {base B : Nat} {e : TypeId} {size n : Nat} {v : Value} {xs : List Value} (h : w5.ownsRow base e size v n xs) (hb : B + 2 ≤ base) (u0 u1 u2 u3 u4 u5 : Value) :
    ((((((w5.setCell ⟨B, 0, none⟩ u0).setCell ⟨B, 1, none⟩ u1).setCell ⟨B, 2, none⟩ u2).setCell ⟨B + 1, 0, none⟩ u3).setCell ⟨B + 1, 1, none⟩ u4).setCell ⟨B + 1, 2, none⟩ u5).ownsRow base e size v n xs :=
  ownsRow_setCell_below (ownsRow_setCell_below (ownsRow_setCell_below (ownsRow_setCell_below (ownsRow_setCell_below (ownsRow_setCell_below h (a := ⟨B, 0, none⟩) (by simp; omega) u0) (a := ⟨B, 1, none⟩) (by simp; omega) u1) (a := ⟨B, 2, none⟩) (by simp; omega) u2) (a := ⟨B + 1, 0, none⟩) (by simp; omega) u3) (a := ⟨B + 1, 1, none⟩) (by simp; omega) u4) (a := ⟨B + 1, 2, none⟩) (by simp; omega) u5
theorem RowsQ.two {w : World} {A B : Option Addr} {c d : Nat} {L M : List Sq} {g : Nat} (hg : g < w.heap.size) (e0 : w.cell? ⟨g, 0, none⟩ = some (.slice A L.length c)) (e1 : w.cell? ⟨g, 1, none⟩ = some (.slice B M.length d))
    (hA : SqsAt w w.heap.size A L) (hB : SqsAt w w.heap.size B M) (cA : L.length ≤ c) (cB : M.length ≤ d) (nA : A = none → L.length = 0 ∧ c = 0) (nB : B = none → M.length = 0 ∧ d = 0) : RowsQ w w.heap.size (some ⟨g, 0, none⟩) [L, M] := by
  intro i l hi
  match i, hi with
  | 0, hi => simp at hi; subst hi; exact ⟨g, 0, A, c, rfl, hg, by simpa using e0, cA, hA, nA⟩
  | 1, hi => simp at hi; subst hi; exact ⟨g, 0, B, d, rfl, hg, by simpa using e1, cB, hB, nB⟩
theorem own_nil0 {w : World} {base : Nat} {e : TypeId} {size n c : Nat} {A : Option Addr} {xs : List Value} (h : w.ownsRow base e size (.slice A n c) n xs) : A = none → n = 0 ∧ c = 0 := fun hA => by
  have h1 := own_nil h hA
  have h2 := own_cap h
  exact ⟨by omega, h1⟩
/-- A place that two sums do not take out of reach. -/
theorem grow_small {W H k : Int} {L : List Sq} (hG : Good W H L) (h1 : 1 ≤ k) (h2 : k ≤ 500) : ∀ s ∈ growL k L, (0 ≤ s.x ∧ s.x ≤ 250000) ∧ (0 ≤ s.y ∧ s.y ≤ 250000) ∧ (1 ≤ s.d ∧ s.d ≤ 250000) := by
  intro s hs
  obtain ⟨t, ht, rfl⟩ := List.mem_map.1 hs
  have hw := (good_fill hG).within t ht
  have hW := hG.1
  have hH := hG.2.1
  unfold Within at hw
  have d1 := (mul_le h1).2 hw.1
  rw [Int.mul_one] at d1
  have := prod_bd h1 h2 (x := t.d) (by omega) (by omega)
  exact ⟨prod_bd h1 h2 (by omega) (by omega), prod_bd h1 h2 (by omega) (by omega), by show 1 ≤ k * t.d; omega, this.2⟩
theorem wf_small {s : Sq} {m : Int} (hm : m ≤ 100000000) (h : (-m ≤ s.x ∧ s.x ≤ m) ∧ (-m ≤ s.y ∧ s.y ≤ m) ∧ (-m ≤ s.d ∧ s.d ≤ m)) : wfS s := by
  unfold wfS wfI; omega
end Go.Proofs.Ytilneimiedfjnaa
