/- Nets told from the other end: the program's and the model's. -/
import Derived.Test.YtfhbbidbbomagaaNetL
import Derived.Test.YtfhbbidbbomagaaFill
import Derived.Maps.RangeWalk
namespace Go.Proofs.Ytfhbbidbbomagaa
open Go.RowKit

noncomputable def netX (N : Int) (L : List Wi) (X : Int) : Int := if dc (NetG N L) then X else 0
noncomputable def ifNet (N : Int) (L R : List Wi) : List Wi := if dc (NetG N L) then R else []
theorem netX_yes {N X : Int} {L : List Wi} (h : NetG N L) : netX N L X = X := by simp [netX, dc_true h]
theorem netX_no {N X : Int} {L : List Wi} (h : ¬ NetG N L) : netX N L X = 0 := by simp [netX, dc_false h]
theorem ifNet_yes {N : Int} {L R : List Wi} (h : NetG N L) : ifNet N L R = R := by simp [ifNet, dc_true h]
theorem ifNet_no {N : Int} {L R : List Wi} (h : ¬ NetG N L) : ifNet N L R = [] := by simp [ifNet, dc_false h]
/-- The memory of a function from a net to a net: its argument's box at block B, its result's behind it. -/
structure NR (B : Nat) (w0 wr : World) (N : Int) (A : Option Addr) (n c : Nat) : Prop where
  bel : Below B w0 wr
  box : Nx B wr N A n c
  res : Nx (B + 1) wr 0 none 0 0
  fz : ∀ o, wr.frozen? ⟨B + 1, o, none⟩ = false
theorem NR.start (w : World) (N : Int) (A : Option Addr) (n c : Nat) : NR w.heap.size w ((w.alloc (.cells #[.int .i64 N, .slice A n c] 28)).alloc (.cells #[.int .i64 0, .slice none 0 0] 28)) N A n c := by
  refine ⟨((Below.refl _ _).alloc (Nat.le_refl _) _).alloc (by simp) _, (Nx.start w N A n c _).next ((Below.refl _ _).alloc (Nat.le_refl _) _), ?_, fun o => World.frozen?_alloc_at _ _ _ _ (by simp)⟩
  have := Nx.start (w.alloc (.cells #[.int .i64 N, .slice A n c] 28)) 0 none 0 0 28
  simpa using this
theorem NR.keep {B : Nat} {w0 wr w' : World} {N : Int} {A : Option Addr} {n c : Nat} (h : NR B w0 wr N A n c) (hb : Below wr.heap.size wr w') : NR B w0 w' N A n c :=
  ⟨h.bel.trans (hb.mono (Nat.le_of_lt h.box.lt)), h.box.next hb, h.res.next hb, fun o => (hb.frozen (p := ⟨B + 1, o, none⟩) h.res.lt).trans (h.fz o)⟩
theorem NR.far {B : Nat} {w0 wr w' : World} {N : Int} {A : Option Addr} {n c : Nat} {row : Option Nat} (h : NR B w0 wr N A n c) (hg : wr.grownBy w' row) (hr : ∀ k, row = some k → B + 1 < k) : NR B w0 w' N A n c :=
  ⟨h.bel.grown hg (Nat.le_of_lt h.box.lt) (fun k hk => by have := hr k hk; omega), h.box.far hg (fun e => by have := hr _ e; omega), h.res.far hg (fun e => by have := hr _ e; omega),
    fun o => (hg.frozen_far ⟨B + 1, o, none⟩ h.res.lt (fun e => by have := hr _ e.symm; simp at this)).trans (h.fz o)⟩
def backW (N : Int) (s : Wi) : Wi := ⟨N - 1 - s.b, N - 1 - s.a⟩
def backL (N : Int) (L : List Wi) : List Wi := L.map (backW N)
theorem backL_len (N : Int) (L : List Wi) : (backL N L).length = L.length := by simp [backL]
theorem backL_take (N : Int) (L : List Wi) (k : Nat) (s : Wi) (h : L[k]? = some s) : backL N (L.take (k + 1)) = backL N (L.take k) ++ [backW N s] := by
  unfold backL
  rw [List.take_add_one, h, List.map_append]
  rfl

/-- The memory of the model's BackNet: beside it a net that grows, boxed at block g. -/
structure NO (B g : Nat) (w0 wr : World) (N : Int) (A : Option Addr) (n c : Nat) (A' : Option Addr) (k c' : Nat) (R : List Wi) : Prop where
  z : NR B w0 wr N A n c
  gb : B + 1 < g
  ob : Nx g wr N A' k c'
  fo : ∀ o, wr.frozen? ⟨g, o, none⟩ = false
  own : wr.ownsRow (g + 1) 70 2 (.slice A' k c') k (flatW R)
theorem NO.keep {B g : Nat} {w0 wr w' : World} {N : Int} {A A' : Option Addr} {n c k c' : Nat} {R : List Wi} (h : NO B g w0 wr N A n c A' k c' R) (hb : Below wr.heap.size wr w') : NO B g w0 w' N A n c A' k c' R :=
  ⟨h.z.keep hb, h.gb, h.ob.next hb, fun o => (hb.frozen (p := ⟨g, o, none⟩) h.ob.lt).trans (h.fo o), own_keep h.own hb⟩
theorem NO.push {B g : Nat} {w0 wr w6 : World} {N : Int} {A A' A6 : Option Addr} {n c k c' c6 : Nat} {R : List Wi} {q : Wi} (h : NO B g w0 wr N A n c A' k c' R) (hg : wr.grownBy w6 (Value.slice A' k c').ownBlock)
    (ho : w6.ownsRow (g + 1) 70 2 (.slice A6 (k + 1) c6) (k + 1) (flatW R ++ [.int .i64 q.a, .int .i64 q.b])) : NO B g w0 (w6.setCell ⟨g, 1, none⟩ (.slice A6 (k + 1) c6)) N A n c A6 (k + 1) c6 (R ++ [q]) := by
  have hgb := h.gb
  have hbl : ∀ j, (Value.slice A' k c').ownBlock = some j → g < j := fun j hj => (h.own.lt j hj).1
  have z6 := h.z.far hg (fun j hj => by have := hbl j hj; omega)
  have hn : (Value.slice A' k c').ownBlock ≠ some g := fun e => by have := hbl g e; omega
  have o6 := h.ob.far hg hn
  have f6 : ∀ o, w6.frozen? ⟨g, o, none⟩ = false := fun o => (hg.frozen_far ⟨g, o, none⟩ h.ob.lt (fun e => hn e.symm)).trans (h.fo o)
  have hput := put_grown w6 ⟨g, 1, none⟩ (.slice A6 (k + 1) c6)
  refine ⟨z6.far hput (fun j hj => by simp at hj; omega), hgb, ⟨?_, ?_, ?_⟩, fun o => ?_, ?_⟩
  · have := o6.lt; simpa using this
  · simp [go_sem, o6.c0]
  · simp [go_sem, o6.c1]
  · rw [show (w6.setCell ⟨g, 1, none⟩ (.slice A6 (k + 1) c6)).frozen? ⟨g, o, none⟩ = w6.frozen? ⟨g, o, none⟩ by simp [go_sem]]
    exact f6 o
  · rw [flatW_app]
    exact ownsRow_setCell_below ho (a := ⟨g, 1, none⟩) (by simp) _
theorem new2 (w : World) (a b : Value) (t : TypeId) : ∀ j u, [a, b][j]? = some u → (w.alloc (.cells #[a, b] t)).cell? ((⟨w.heap.size, 0, none⟩ : Addr).add j) = some u := by
  intro j u hj
  match j, hj with
  | 0, hj => simp at hj; subst hj; simp [Addr.add]
  | 1, hj => simp at hj; subst hj; simp [Addr.add]
theorem one2 (a b : Int) : ∀ u ∈ [Value.int .i64 a, Value.int .i64 b], u.oneCell' = true := by
  intro u hu; simp at hu; rcases hu with rfl | rfl <;> rfl

end Go.Proofs.Ytfhbbidbbomagaa
