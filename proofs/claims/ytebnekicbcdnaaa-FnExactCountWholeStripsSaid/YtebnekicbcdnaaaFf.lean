/- The program's line of heights: its first free cell, and the line below a square. -/
import Derived.Test.YtebnekicbcdnaaaFill
import Derived.Test.YtebnekicbcdnaaaCtG
set_option linter.all false
namespace Go.Proofs.Ytebnekicbcdnaaa
open Go.RowKit

/-- Thirteen numbers as an array. -/
def arr (g : List Int) : Value := .agg (ints g).toArray
def pad (f : List Int) : List Int := f ++ List.replicate (13 - f.length) 0
theorem pad_len {f : List Int} (h : f.length ≤ 13) : (pad f).length = 13 := by simp [pad]; omega
theorem pad_get {f : List Int} {j : Nat} (h : j < f.length) : (pad f)[j]? = f[j]? := by simp [pad, List.getElem?_append_left h]
theorem pad_lift {f : List Int} {x s : Nat} {v : Int} (h : x + s ≤ f.length) : liftF (pad f) x s v = pad (liftF f x s v) := by
  apply List.ext_getElem?
  intro i
  rw [liftF_get]
  unfold pad
  rw [liftF_len]
  by_cases hi : i < f.length
  · rw [List.getElem?_append_left hi, List.getElem?_append_left (by rw [liftF_len]; exact hi), liftF_get]
  · rw [List.getElem?_append_right (by omega), List.getElem?_append_right (by rw [liftF_len]; omega), liftF_len]
    cases h' : (List.replicate (13 - f.length) (0 : Int))[i - f.length]? with
    | none => rfl
    | some u => simp only [Option.map_some]; rw [if_neg (by omega)]
theorem len13 {g : List Int} (h : g.length = 13) : ∃ g0 g1 g2 g3 g4 g5 g6 g7 g8 g9 g10 g11 g12, g = [g0, g1, g2, g3, g4, g5, g6, g7, g8, g9, g10, g11, g12] := by
  match g, h with
  | [g0, g1, g2, g3, g4, g5, g6, g7, g8, g9, g10, g11, g12], _ => exact ⟨_, _, _, _, _, _, _, _, _, _, _, _, _, rfl⟩
/-- A block's cells are these numbers. -/
def Cols (w : World) (b : Nat) (g : List Int) : Prop := ∀ (j : Nat) u, g[j]? = some u → w.cell? ⟨b, j, none⟩ = some (.int .i64 u)
theorem Cols.new (w : World) (g : List Int) (t : TypeId) : Cols (w.alloc (.cells (ints g).toArray t)) w.heap.size g := by
  intro j u hu
  have e : (w.alloc (.cells (ints g).toArray t)).heap[w.heap.size]? = some (.cells (ints g).toArray t (0, 0)) := heap_alloc_new w _
  unfold World.cell?
  dsimp only
  rw [e]
  simp [ints, hu]

set_option maxRecDepth 100000 in
set_option maxHeartbeats 4000000 in
theorem firstFree_any (W : Nat) (H : Int) (f : List Int) (x r : Nat) (y : Int) (hf : Fl W H f) (hW1 : 1 ≤ W) (hW : W ≤ 500) (hH : H ≤ 500) (hm : FM f x y) (hr : RM f H x y r) (b cap : Nat) (W1 : World) (hb0 : b < W1.heap.size) (hC : ∀ (j : Nat) u, f[j]? = some u → W1.cell? ⟨b, j, none⟩ = some (.int .i64 u)) :
    Calls Try.prog 103 #[.slice (some ⟨b, 0, none⟩) W cap, .int .i64 H] W1 fun e w' => e = .returned (.tuple #[.int .i64 x, .int .i64 y, .int .i64 r]) ∧ W1 = w' := by
  have hl := hf.len
  have hx := (List.getElem?_eq_some_iff.1 hm.1).1
  have hy0 := hf.lo x y hm.1
  have hyH := hf.hi x y hm.1
  have hcj : ∀ j, j < f.length → W1.cell? ⟨b, 0 + j, none⟩ = some (.int .i64 (f.getD j 0)) := by
    intro j hj
    rw [Nat.zero_add]
    refine hC j _ ?_
    rw [List.getElem?_eq_getElem hj]
    simp [List.getD, List.getElem?_eq_getElem hj]
  have CM := Try.slices_Min_int b 0 W cap f W1 (by omega) (by omega) (by omega) hcj
  rw [fm_min hl hm] at CM
  have CI := Try.slices_Index_int b 0 W cap f y W1 (by omega) (by omega) hcj
  rw [fm_idx hl hm] at CI
  have HC := Lib.hid hC
  have HR := Lib.hid hr
  have HM := Lib.hid hm
  have HL := Lib.hid hl
  have w13 : (W : Int) ≤ 500 := by omega
  clear hcj hC hr hm
  go_enter Try.func103, Try.ntmps103
  go_wp2_with fail
  refine CM.mono ?_
  rintro e w2 ⟨rfl, hw2⟩
  rw [hw2]
  clear hw2 w2 CM
  go_wp2_with fail
  refine CI.mono ?_
  rintro e w2 ⟨rfl, hw2⟩
  rw [hw2]
  clear hw2 w2 CI
  go_wp2_with fail
  go_loopw [6] (fun v wr => ∃ k : Nat, v = .int .i64 (k : Int) ∧ wr = W1 ∧ x + k ≤ W ∧ y + k ≤ H ∧ Lvl f x k y) (fun v _ => W - (intOf v).toNat)
  case atStart => exact ⟨0, rfl, rfl, by omega, by omega, fun i h1 h2 => by omega⟩
  case round =>
    obtain ⟨k, rfl, hwr, hk1, hk2, hlv⟩ := hrel
    subst hwr
    have HLV := Lib.hid hlv
    clear hlv
    have wa : IntKind.i64.wrap ((x : Int) + (k : Int)) = (x : Int) + (k : Int) := IntWalk.i64_in _ (by omega)
    have wb : IntKind.i64.wrap (y + (k : Int)) = y + (k : Int) := IntWalk.i64_in _ (by omega)
    by_cases h1 : x + k < W
    · have i1 : (x : Int) + (k : Int) < (W : Int) := by omega
      by_cases h2 : y + k < H
      · obtain ⟨u, hu⟩ : ∃ u, f[x + k]? = some u := ⟨_, List.getElem?_eq_getElem (by omega)⟩
        have hcu : wr.cell? ⟨b, x + k, none⟩ = some (.int .i64 u) := HC.out _ _ hu
        have x0 : (0 : Int) ≤ (x : Int) + (k : Int) := by omega
        have xn : ((x : Int) + (k : Int)).toNat = x + k := by omega
        have HU := Lib.hid hu
        clear hu
        cases huy : (u == y)
        · have HE := Lib.hid (show u ≠ y from fun e => by subst e; simp at huy)
          go_wp2_with fail
          refine bodyPost_ret (v := .tuple #[.int .i64 x, .int .i64 y, .int .i64 k]) (by simp [results, Try.results103, go_sem]) rfl ?_
          have hrk := HR.out.uniq ⟨by have := HL.out; omega, hk2, HLV.out, fun hh => HE.out (Option.some.inj (HU.out.symm.trans hh.2.2))⟩
          exact ⟨by rw [hrk], rfl⟩
        · obtain rfl : u = y := by simpa using huy
          go_wp2_with fail
          go_roundw
          case rel => exact ⟨k + 1, by go_num, trivial, by omega, by omega, fun i hi hj => by
            by_cases e : i = x + k
            · rw [e]; exact HU.out
            · exact HLV.out i hi (by omega)⟩
          case measure => simp [intOf]; omega
      · go_wp2_with fail
        refine bodyPost_ret (v := .tuple #[.int .i64 x, .int .i64 y, .int .i64 k]) (by simp [results, Try.results103, go_sem]) rfl ?_
        have hrk := HR.out.uniq ⟨by have := HL.out; omega, hk2, HLV.out, fun hh => by have := hh.2.1; omega⟩
        exact ⟨by rw [hrk], rfl⟩
    · go_wp2_with fail
      refine bodyPost_ret (v := .tuple #[.int .i64 x, .int .i64 y, .int .i64 k]) (by simp [results, Try.results103, go_sem]) rfl ?_
      have hrk := HR.out.uniq ⟨by have := HL.out; omega, hk2, HLV.out, fun hh => by have := HL.out; have := hh.1; omega⟩
      exact ⟨by rw [hrk], rfl⟩

theorem Cols.set {w : World} {b : Nat} {g : List Int} (h : Cols w b g) (j : Nat) (v : Int) : Cols (w.setCell ⟨b, j, none⟩ (.int .i64 v)) b (g.set j v) := by
  intro i u hu
  rw [List.getElem?_set] at hu
  by_cases e : j = i
  · subst e
    rw [if_pos rfl] at hu
    split at hu
    · rename_i hl
      cases hu
      exact World.cell?_setCell_same _ _ _ (h j _ (List.getElem?_eq_getElem hl))
    · cases hu
  · rw [if_neg e] at hu
    rw [World.cell?_setCell_other _ _ _ _ (fun e' => e (Addr.mk.inj e').2.1)]
    exact h i u hu
theorem Cols.below {w w' : World} {b N : Nat} {g : List Int} (h : Cols w b g) (hb : Below N w w') (hn : b < N) : Cols w' b g := fun j u hu => (hb.cell (p := ⟨b, j, none⟩) hn).trans (h j u hu)
/-- The memory of a line that is raised. -/
structure RW (w : World) (g : List Int) (x d : Int) (wr : World) : Prop where
  c : Cols wr w.heap.size g
  f : ∀ o, wr.frozen? ⟨w.heap.size, o, none⟩ = false
  s0 : wr.cell? ⟨w.heap.size + 1, 0, none⟩ = some (.int .i64 x)
  s2 : wr.cell? ⟨w.heap.size + 1, 2, none⟩ = some (.int .i64 d)
  r : ∀ j, j < 13 → wr.cell? ⟨w.heap.size + 1 + 1, j, none⟩ = some (.int .i64 0)
  rf : ∀ o, wr.frozen? ⟨w.heap.size + 1 + 1, o, none⟩ = false
  b : Below w.heap.size w wr
theorem RW.set {w wr : World} {g : List Int} {x d : Int} (h : RW w g x d wr) (j : Nat) (v : Int) : RW w (g.set j v) x d (wr.setCell ⟨w.heap.size, j, none⟩ (.int .i64 v)) := by
  have ne : ∀ k o, k ≠ w.heap.size → (⟨k, o, none⟩ : Addr) ≠ ⟨w.heap.size, j, none⟩ := fun k o hk e => hk (congrArg Addr.block e)
  exact ⟨h.c.set j v, fun o => by rw [World.frozen?_setCell]; exact h.f o, (World.cell?_setCell_other _ _ _ _ (ne (w.heap.size + 1) _ (by omega)).symm).trans h.s0, (World.cell?_setCell_other _ _ _ _ (ne (w.heap.size + 1) _ (by omega)).symm).trans h.s2,
    fun i hi => (World.cell?_setCell_other _ _ _ _ (ne (w.heap.size + 1 + 1) _ (by omega)).symm).trans (h.r i hi), fun o => by rw [World.frozen?_setCell]; exact h.rf o, h.b.setCell (p := ⟨w.heap.size, j, none⟩) (Nat.le_refl _) _⟩
theorem RW.keep {w wr w' : World} {g : List Int} {x d : Int} (h : RW w g x d wr) (hb : Below wr.heap.size wr w') : RW w g x d w' := by
  have h1 := World.block_lt_of_cell? _ _ h.s0
  have h2 := World.block_lt_of_cell? _ _ (h.r 0 (by omega))
  dsimp only at h1 h2
  exact ⟨h.c.below hb (by omega), fun o => (hb.frozen (p := ⟨w.heap.size, o, none⟩) (by show w.heap.size < _; omega)).trans (h.f o), (hb.cell (p := ⟨w.heap.size + 1, 0, none⟩) h1).trans h.s0, (hb.cell (p := ⟨w.heap.size + 1, 2, none⟩) h1).trans h.s2,
    fun j hj => (hb.cell (p := ⟨w.heap.size + 1 + 1, j, none⟩) h2).trans (h.r j hj), fun o => (hb.frozen (p := ⟨w.heap.size + 1 + 1, o, none⟩) h2).trans (h.rf o), h.b.trans (hb.mono (by omega))⟩
end Go.Proofs.Ytebnekicbcdnaaa
