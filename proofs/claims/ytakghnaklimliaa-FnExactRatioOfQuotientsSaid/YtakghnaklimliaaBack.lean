/- slices.Backward over a list of numbers of at least 1; RatioOfQuotients of the program. -/
import Derived.RangeFuncNested
import Derived.RangeFuncBound
import Derived.RangeFuncCalls
import Derived.RangeFuncLeaves
import Derived.RangeFuncBox
import Derived.Shelf.Abstract
import Derived.Shelf.RegionOpen
import Derived.WalkKit
import Derived.OwnWalkIn
import Derived.TacticsInMore
import Derived.LoopNIn
import Derived.LoopIn
import Derived.Test.YtakghnaklimliaaQuo
namespace Go.Proofs.Ytakghnaklimliaa
open Go.RowKit Go.Shelf
attribute [local go_sem] Oper.semAt_some

abbrev QI := { x : Int // 1 ≤ x ∧ x ≤ 9223372036854775807 }
def bup (f : Nat → QI) (len k : Nat) : List (Nat × QI) := (List.range k).map fun j => (len - 1 - j, f (len - 1 - j))
theorem bup_succ (f : Nat → QI) (len k : Nat) : bup f len (k + 1) = bup f len k ++ [(len - 1 - k, f (len - 1 - k))] := by simp [bup, List.range_succ]
theorem bup_length (f : Nat → QI) (len k : Nat) : (bup f len k).length = k := by simp [bup]
/-- What lay below n₀ lies as it lay; so does what this cell holds. -/
def Kb (n₀ Bs : Nat) (A B : World) : Prop := Below n₀ A B ∧ ∀ v, A.cell? ⟨Bs, 0, none⟩ = some v → B.cell? ⟨Bs, 0, none⟩ = some v
theorem Kb.refl (n₀ Bs : Nat) (A : World) : Kb n₀ Bs A A := ⟨Below.refl _ _, fun _ h => h⟩
theorem Kb.trans {n₀ Bs : Nat} {A B C : World} (h : Kb n₀ Bs A B) (k : Kb n₀ Bs B C) : Kb n₀ Bs A C := ⟨h.1.trans k.1, fun v hv => k.2 v (h.2 v hv)⟩
theorem Kb.put {n₀ Bs : Nat} {w : World} (hn : n₀ ≤ w.heap.size) (W : World) (l : Nat) (o o' : Obj) (hl : w.heap.size ≤ l) (h : W.heap[l]? = some o) (hc : o.isCells = false) (hw : o.isWalk = false) : Kb n₀ Bs W (W.putObj l o') :=
  ⟨belowK_b hn W l o o' hl h hc hw, fun _ hv => cell_kept hv (grownBy_putObj' W l o') (fun r e => by cases e; exact ⟨_, h, hc⟩)⟩

set_option maxRecDepth 100000 in
set_option maxHeartbeats 2000000 in
theorem back1_in (F : Fence) (n : Nat) (h7 : F.fn 58) (hro : F.round = none) (hn : 1 ≤ n) (l Bs n₀ b off len cap : Nat) (f : Nat → QI) (hreach : len ≤ 1000) (hb : b < n₀) (J Jx : List (Nat × QI) → World → Prop)
    (hY : ∀ pre x W, J pre W → pre.length < len → YieldAt F (n - 1) Try.prog l #[.int .i64 (x.1 : Int), .int .i64 x.2.1] W fun e W' =>
      (e = .returned (.bool true) ∧ J (pre ++ [x]) W' ∧ Kb n₀ Bs W W') ∨ (e = .returned (.bool false) ∧ Jx (pre ++ [x]) W'))
    (W : World) (hBs : W.cell? ⟨Bs, 0, none⟩ = some (.slice (some ⟨b, off, none⟩) len cap)) (hc : ∀ j, j < len → W.cell? ⟨b, off + j, none⟩ = some (.int .i64 (f j).1)) (h0 : J [] W) :
    CallsIn F n Try.prog 58 #[.func (.yield l) #[] #[], .pointer (some ⟨Bs, 0, none⟩)] W fun e W' => (∃ v, e = .returned v) ∧
      ((∃ ys, ys = bup f len len ∧ J ys W') ∨ (∃ pre, (∃ k, k ≤ len ∧ pre = bup f len k) ∧ Jx pre W')) := by
  refine callsIn_of_wp Try.func58 rfl h7 ?_ hro
  simp only [Try.ntmps58, List.size_toArray, List.length_cons, List.length_nil, Nat.reduceAdd, Nat.reduceSub, Array.replicate_succ, Array.replicate_zero, List.push_toArray, List.append_toArray, List.nil_append, List.cons_append]
  gi_wp2
  gi_loopw [3] (fun i wr => ∃ m k : Nat, k + m = len ∧ i = .int .i64 ((m : Int) - 1) ∧ J (bup f len k) wr ∧ Kb n₀ Bs W wr)
    (fun i _ => (intOf i + 1).toNat)
  case atStart => exact ⟨len, 0, by omega, rfl, h0, Kb.refl _ _ _⟩
  case round =>
    obtain ⟨m, k, hk, rfl, hJs, hnx⟩ := hrel
    have hBr := hnx.2 _ hBs
    cases m with
    | zero =>
      obtain rfl : k = len := by omega
      have e : ((0 : Nat) : Int) - 1 = -1 := by omega
      rw [e]
      gi_wp2
      go_end0
      exact ⟨⟨_, rfl⟩, .inl ⟨_, rfl, hJs⟩⟩
    | succ m =>
      have e : ((m + 1 : Nat) : Int) - 1 = (m : Int) := by omega
      rw [e]
      have hm : len - 1 - k = m := by omega
      have hcx : wr.cell? ⟨b, off + m, none⟩ = some (.int .i64 (f m).1) := (hnx.1.cell (p := ⟨b, off + m, none⟩) hb).trans (hc m (by omega))
      obtain ⟨fn, tmps, assign, body, hy, hR⟩ := hY _ (m, f m) wr hJs (by rw [bup_length]; omega)
      dsimp only at hy
      have i1 : (m : Int) < (len : Int) := by omega
      have i0 : (0 : Int) ≤ (m : Int) := by omega
      gi_wp2
      refine hR.mono ?_
      rintro e W3 (⟨rfl, hJ3, hk3⟩ | ⟨rfl, hJx3⟩)
      · gi_wp2
        go_roundw
        case rel => exact ⟨m, k + 1, by omega, rfl, by rw [bup_succ, hm]; exact hJ3, hnx.trans hk3⟩
        case measure => simp [intOf]
      · gi_wp2
        refine bodyPost_ret (results_none rfl _ _ _) rfl ?_
        exact ⟨⟨_, rfl⟩, .inr ⟨_, ⟨k + 1, by omega, by rw [bup_succ, hm]⟩, hJx3⟩⟩

set_option maxHeartbeats 1000000 in
theorem back_in (F : Fence) (n : Nat) (h5 : F.fn 44) (hro : F.round = none) (a : Option Addr) (len cap : Nat) (w : World) :
    CallsIn F n Try.prog 44 #[.slice a len cap] w fun e w' => e = .returned (.func (.func 58) #[] #[.pointer (some ⟨w.heap.size, 0, none⟩)]) ∧ w' = w.alloc (.cells #[.slice a len cap] 32) := by
  refine callsIn_of_wp Try.func44 rfl h5 ?_ hro
  simp only [Try.ntmps44, List.size_toArray, List.length_cons, List.length_nil, Nat.reduceAdd, Nat.reduceSub, Array.replicate_succ, Array.replicate_zero, List.push_toArray, List.append_toArray, List.nil_append, List.cons_append]
  gi_wp2
  go_ret
  exact ⟨rfl, rfl⟩

theorem back_stops (F : Fence) (n : Nat) (h7 : F.fn 58) (hro : F.round = none) (hn : 1 ≤ n) (Bs n₀ b off len cap : Nat) (f : Nat → QI) (hreach : len ≤ 1000) (w : World) (hBs : Bs < w.heap.size) (hn₀ : n₀ ≤ w.heap.size) (hb : b < n₀)
    (hc : w.cell? ⟨Bs, 0, none⟩ = some (.slice (some ⟨b, off, none⟩) len cap)) (hI : ∀ j, j < len → w.cell? ⟨b, off + j, none⟩ = some (.int .i64 (f j).1)) :
    SeqStopsK F n Try.prog 58 #[.pointer (some ⟨Bs, 0, none⟩)] (fun x : Nat × QI => #[Value.int .i64 (x.1 : Int), Value.int .i64 x.2.1]) (Kb n₀ Bs) (fun ys => ys = bup f len len)
      (fun pre => ∃ k, k ≤ len ∧ pre = bup f len k) len w := fun l J Jx W hW _ _ hY h0 => by
  have hc' := (hW.cell (p := ⟨Bs, 0, none⟩) hBs).trans hc
  exact back1_in F n h7 hro hn l Bs n₀ b off len cap f hreach hb J Jx hY W hc' (fun j hj => (hW.cell (p := ⟨b, off + j, none⟩) (Nat.lt_of_lt_of_le hb hn₀)).trans (hI j hj)) h0

def quoP (pre : List (Nat × QI)) : Option (Int × Int) := pre.foldl (fun s x => qStep s x.2.1) (some (1, 0))
theorem quoP_snoc (pre : List (Nat × QI)) (x : Nat × QI) : quoP (pre ++ [x]) = qStep (quoP pre) x.2.1 := by simp [quoP]
theorem quoP_bup {f : Nat → QI} {L : List Int} {len : Nat} (hl : L.length = len) (hf : ∀ j q, L[j]? = some q → (f j).1 = q) (k : Nat) (hk : k ≤ len) : quoP (bup f len k) = quoF (L.drop (len - k)) := by
  induction k with
  | zero => simp [bup, quoP, quoF, ← hl]
  | succ k ih =>
    have hg := List.getElem?_eq_getElem (l := L) (i := len - 1 - k) (by omega)
    rw [bup_succ, quoP_snoc, ih (by omega)]
    have e1 : len - (k + 1) = len - 1 - k := by omega
    have e2 : len - k = len - 1 - k + 1 := by omega
    rw [e1, quoF_at hg, e2, hf _ _ hg]
/-- These numbers as ones of at least 1. -/
def qiOf (L : List Int) (j : Nat) : QI := if h : 1 ≤ L.getD j 1 ∧ L.getD j 1 ≤ 9223372036854775807 then ⟨L.getD j 1, h⟩ else ⟨1, by omega, by omega⟩
theorem qiOf_at {L : List Int} (h : ∀ q ∈ L, 1 ≤ q) (hw : ∀ q ∈ L, wfI q) (j : Nat) (q : Int) (hq : L[j]? = some q) : (qiOf L j).1 = q := by
  have e : L.getD j 1 = q := by simp [List.getD, hq]
  have h1 := h q (List.mem_of_getElem? hq)
  have h2 := hw q (List.mem_of_getElem? hq)
  unfold qiOf
  rw [dif_pos (by rw [e]; unfold wfI at h2; omega)]
  exact e

theorem Kb.set {n₀ Bs : Nat} {W : World} {p : Addr} {v : Value} (hp : n₀ ≤ p.block) (hne : p ≠ ⟨Bs, 0, none⟩) : Kb n₀ Bs W (W.setCell p v) := ⟨(Below.refl _ _).setCell hp _, fun _ hu => (World.cell?_setCell_other W p _ v hne).trans hu⟩
/-- The five boxes of the call. -/
structure QM (N : Nat) (W : World) (a d : Int) : Prop where
  c2 : W.cell? ⟨N, 0, none⟩ = some (.int .i64 0)
  c3 : W.cell? ⟨N + 1, 0, none⟩ = some (.int .i64 0)
  c4 : W.cell? ⟨N + 1 + 1, 0, none⟩ = some (.bool false)
  c5 : W.cell? ⟨N + 1 + 1 + 1, 0, none⟩ = some (.int .i64 a)
  c6 : W.cell? ⟨N + 1 + 1 + 1 + 1, 0, none⟩ = some (.int .i64 d)
  f2 : W.frozen? ⟨N, 0, none⟩ = false
  f3 : W.frozen? ⟨N + 1, 0, none⟩ = false
  f4 : W.frozen? ⟨N + 1 + 1, 0, none⟩ = false
  f5 : W.frozen? ⟨N + 1 + 1 + 1, 0, none⟩ = false
  f6 : W.frozen? ⟨N + 1 + 1 + 1 + 1, 0, none⟩ = false
theorem six (w : World) (v : Value) : QM w.heap.size ((((((w.alloc (.cells #[.int .i64 0] 3)).alloc (.cells #[.int .i64 0] 3)).alloc (.cells #[.bool false] 4)).alloc (.cells #[.int .i64 1] 3)).alloc (.cells #[.int .i64 0] 3)).alloc (.cells #[v] 32)) 1 0 ∧
    ((((((w.alloc (.cells #[.int .i64 0] 3)).alloc (.cells #[.int .i64 0] 3)).alloc (.cells #[.bool false] 4)).alloc (.cells #[.int .i64 1] 3)).alloc (.cells #[.int .i64 0] 3)).alloc (.cells #[v] 32)).cell? ⟨w.heap.size + 1 + 1 + 1 + 1 + 1, 0, none⟩ = some v ∧
    ((((((w.alloc (.cells #[.int .i64 0] 3)).alloc (.cells #[.int .i64 0] 3)).alloc (.cells #[.bool false] 4)).alloc (.cells #[.int .i64 1] 3)).alloc (.cells #[.int .i64 0] 3)).alloc (.cells #[v] 32)).heap.size = w.heap.size + 1 + 1 + 1 + 1 + 1 + 1 := by
  have e1 := Boxed.new w 3 (.int .i64 0)
  have e2 := Boxed.new (w.alloc (.cells #[.int .i64 0] 3)) 3 (.int .i64 0)
  have e3 := Boxed.new ((w.alloc (.cells #[.int .i64 0] 3)).alloc (.cells #[.int .i64 0] 3)) 4 (.bool false)
  have e4 := Boxed.new (((w.alloc (.cells #[.int .i64 0] 3)).alloc (.cells #[.int .i64 0] 3)).alloc (.cells #[.bool false] 4)) 3 (.int .i64 1)
  have e5 := Boxed.new ((((w.alloc (.cells #[.int .i64 0] 3)).alloc (.cells #[.int .i64 0] 3)).alloc (.cells #[.bool false] 4)).alloc (.cells #[.int .i64 1] 3)) 3 (.int .i64 0)
  have e6 := Boxed.new (((((w.alloc (.cells #[.int .i64 0] 3)).alloc (.cells #[.int .i64 0] 3)).alloc (.cells #[.bool false] 4)).alloc (.cells #[.int .i64 1] 3)).alloc (.cells #[.int .i64 0] 3)) 32 v
  have E1 := ((((e1.alloc (.cells #[.int .i64 0] 3)).alloc (.cells #[.bool false] 4)).alloc (.cells #[.int .i64 1] 3)).alloc (.cells #[.int .i64 0] 3)).alloc (.cells #[v] 32)
  have E2 := (((e2.alloc (.cells #[.bool false] 4)).alloc (.cells #[.int .i64 1] 3)).alloc (.cells #[.int .i64 0] 3)).alloc (.cells #[v] 32)
  have E3 := ((e3.alloc (.cells #[.int .i64 1] 3)).alloc (.cells #[.int .i64 0] 3)).alloc (.cells #[v] 32)
  have E4 := (e4.alloc (.cells #[.int .i64 0] 3)).alloc (.cells #[v] 32)
  have E5 := e5.alloc (.cells #[v] 32)
  simp only [World.size_alloc] at E1 E2 E3 E4 E5 e6 ⊢
  exact ⟨⟨E1.cell, E2.cell, E3.cell, E4.cell, E5.cell, E1.frozen, E2.frozen, E3.frozen, E4.frozen, E5.frozen⟩, e6.cell, trivial⟩
theorem QM.kept {N : Nat} {A B : World} {a d : Int} {row : Option Nat} (h : QM N A a d) (hg : A.grownBy B row) (hr : ∀ r, row = some r → ∃ o : Obj, A.heap[r]? = some o ∧ o.isCells = false) : QM N B a d :=
  ⟨cell_kept h.c2 hg hr, cell_kept h.c3 hg hr, cell_kept h.c4 hg hr, cell_kept h.c5 hg hr, cell_kept h.c6 hg hr, (frozen_kept h.c2 hg hr).trans h.f2, (frozen_kept h.c3 hg hr).trans h.f3, (frozen_kept h.c4 hg hr).trans h.f4, (frozen_kept h.c5 hg hr).trans h.f5, (frozen_kept h.c6 hg hr).trans h.f6⟩
theorem far_ne {B C : Nat} (h : B ≠ C) : (⟨B, 0, none⟩ : Addr) ≠ ⟨C, 0, none⟩ := fun e => h (Addr.mk.inj e).1
theorem QM.z2 {N : Nat} {W : World} {a d : Int} (h : QM N W a d) : QM N (W.setCell ⟨N, 0, none⟩ (.int .i64 0)) a d :=
  ⟨World.cell?_setCell_same _ _ _ h.c2, (World.cell?_setCell_other _ _ _ _ (far_ne (by omega))).trans h.c3, (World.cell?_setCell_other _ _ _ _ (far_ne (by omega))).trans h.c4, (World.cell?_setCell_other _ _ _ _ (far_ne (by omega))).trans h.c5, (World.cell?_setCell_other _ _ _ _ (far_ne (by omega))).trans h.c6,
   by rw [World.frozen?_setCell]; exact h.f2, by rw [World.frozen?_setCell]; exact h.f3, by rw [World.frozen?_setCell]; exact h.f4, by rw [World.frozen?_setCell]; exact h.f5, by rw [World.frozen?_setCell]; exact h.f6⟩
theorem QM.z3 {N : Nat} {W : World} {a d : Int} (h : QM N W a d) : QM N (W.setCell ⟨N + 1, 0, none⟩ (.int .i64 0)) a d :=
  ⟨(World.cell?_setCell_other _ _ _ _ (far_ne (by omega))).trans h.c2, World.cell?_setCell_same _ _ _ h.c3, (World.cell?_setCell_other _ _ _ _ (far_ne (by omega))).trans h.c4, (World.cell?_setCell_other _ _ _ _ (far_ne (by omega))).trans h.c5, (World.cell?_setCell_other _ _ _ _ (far_ne (by omega))).trans h.c6,
   by rw [World.frozen?_setCell]; exact h.f2, by rw [World.frozen?_setCell]; exact h.f3, by rw [World.frozen?_setCell]; exact h.f4, by rw [World.frozen?_setCell]; exact h.f5, by rw [World.frozen?_setCell]; exact h.f6⟩
theorem QM.z4 {N : Nat} {W : World} {a d : Int} (h : QM N W a d) : QM N (W.setCell ⟨N + 1 + 1, 0, none⟩ (.bool false)) a d :=
  ⟨(World.cell?_setCell_other _ _ _ _ (far_ne (by omega))).trans h.c2, (World.cell?_setCell_other _ _ _ _ (far_ne (by omega))).trans h.c3, World.cell?_setCell_same _ _ _ h.c4, (World.cell?_setCell_other _ _ _ _ (far_ne (by omega))).trans h.c5, (World.cell?_setCell_other _ _ _ _ (far_ne (by omega))).trans h.c6,
   by rw [World.frozen?_setCell]; exact h.f2, by rw [World.frozen?_setCell]; exact h.f3, by rw [World.frozen?_setCell]; exact h.f4, by rw [World.frozen?_setCell]; exact h.f5, by rw [World.frozen?_setCell]; exact h.f6⟩
theorem QM.s5 {N : Nat} {W : World} {a d : Int} (h : QM N W a d) (v : Int) : QM N (W.setCell ⟨N + 1 + 1 + 1, 0, none⟩ (.int .i64 v)) v d :=
  ⟨(World.cell?_setCell_other _ _ _ _ (far_ne (by omega))).trans h.c2, (World.cell?_setCell_other _ _ _ _ (far_ne (by omega))).trans h.c3, (World.cell?_setCell_other _ _ _ _ (far_ne (by omega))).trans h.c4, World.cell?_setCell_same _ _ _ h.c5, (World.cell?_setCell_other _ _ _ _ (far_ne (by omega))).trans h.c6,
   by rw [World.frozen?_setCell]; exact h.f2, by rw [World.frozen?_setCell]; exact h.f3, by rw [World.frozen?_setCell]; exact h.f4, by rw [World.frozen?_setCell]; exact h.f5, by rw [World.frozen?_setCell]; exact h.f6⟩
theorem QM.s6 {N : Nat} {W : World} {a d : Int} (h : QM N W a d) (v : Int) : QM N (W.setCell ⟨N + 1 + 1 + 1 + 1, 0, none⟩ (.int .i64 v)) a v :=
  ⟨(World.cell?_setCell_other _ _ _ _ (far_ne (by omega))).trans h.c2, (World.cell?_setCell_other _ _ _ _ (far_ne (by omega))).trans h.c3, (World.cell?_setCell_other _ _ _ _ (far_ne (by omega))).trans h.c4, (World.cell?_setCell_other _ _ _ _ (far_ne (by omega))).trans h.c5, World.cell?_setCell_same _ _ _ h.c6,
   by rw [World.frozen?_setCell]; exact h.f2, by rw [World.frozen?_setCell]; exact h.f3, by rw [World.frozen?_setCell]; exact h.f4, by rw [World.frozen?_setCell]; exact h.f5, by rw [World.frozen?_setCell]; exact h.f6⟩

set_option maxRecDepth 100000 in
set_option maxHeartbeats 4000000 in
theorem implQuo_no (A : Option Addr) (n c : Nat) (L : List Int) (w : World) (hl : L.length = n) (hn : n ≤ 1048576) (hL : IntsAt w w.heap.size A L) (hok : ¬ QOk L) :
    Calls Try.prog 17 #[.slice A n c] w (RetQ w L) := by
  have hA : ∀ W, Below w.heap.size w W → Calls Try.prog 43 #[.slice A n c] W fun e w' => e = .returned (.bool false) ∧ w' = W := by
    intro W hB
    have := areQ_any A n c L W hl hn ((hL.below hB).mono hB.size)
    rwa [dc_false hok] at this
  have HA := Lib.hid hA
  have HR := Lib.hid (quoR_no hok)
  clear hA hok hL hl hn
  obtain ⟨W1, hW1⟩ : ∃ W1, W1 = ((w.alloc (.cells #[.int .i64 0] 3)).alloc (.cells #[.int .i64 0] 3)).alloc (.cells #[.bool false] 4) := ⟨_, rfl⟩
  have hB1 : Below w.heap.size w W1 := by rw [hW1]; exact (((Below.refl _ _).alloc (Nat.le_refl _) _).alloc (by simp) _).alloc (by simp; omega) _
  go_enter Try.func17, Try.ntmps17
  go_wp2_with fail
  rw [← hW1]
  refine (HA.out _ hB1).mono ?_
  rintro e w2 ⟨rfl, rfl⟩
  rw [hW1]
  go_wp2_with fail
  rw [hW1] at hB1
  refine bodyPost_ret (v := .tuple #[.int .i64 0, .int .i64 0, .bool false]) (by simp [results, Try.results17, go_sem]) rfl ?_
  exact RetQ.no HR.out hB1

set_option maxRecDepth 100000 in
set_option maxHeartbeats 8000000 in
theorem implQuo_yes (b off n c : Nat) (L : List Int) (w : World) (hl : L.length = n) (hn : n ≤ 1048576) (hL : IntsAt w w.heap.size (some ⟨b, off, none⟩) L) (hwf : ∀ s ∈ L, wfI s) (hok : QOk L) :
    Calls Try.prog 17 #[.slice (some ⟨b, off, none⟩) n c] w (RetQ w L) := by
  have hA : ∀ W, Below w.heap.size w W → Calls Try.prog 43 #[.slice (some ⟨b, off, none⟩) n c] W fun e w' => e = .returned (.bool true) ∧ w' = W := by
    intro W hB
    have := areQ_any (some ⟨b, off, none⟩) n c L W hl hn ((hL.below hB).mono hB.size)
    rwa [dc_true hok] at this
  have HA := Lib.hid hA
  obtain ⟨hk0, hk20, hk1, _⟩ := id hok
  have HO := Lib.hid hok
  have hb : b < w.heap.size := by
    obtain ⟨b', off', e, hb', _⟩ := hL 0 _ (List.getElem?_eq_getElem (by omega))
    cases e; exact hb'
  have hI : ∀ W, Below w.heap.size w W → ∀ j, j < n → W.cell? ⟨b, off + j, none⟩ = some (.int .i64 (qiOf L j).1) := by
    intro W hB j hj
    obtain ⟨b', off', e, _, cj⟩ := hL j _ (List.getElem?_eq_getElem (by omega))
    cases e
    rw [hB.cell (p := ⟨b, off + j, none⟩) hb, cj, qiOf_at hk1 hwf j _ (List.getElem?_eq_getElem (by omega))]
  have HI := Lib.hid hI
  have HP := Lib.hid (fun k hk => quoP_bup (f := qiOf L) hl (qiOf_at hk1 hwf) k hk)
  have HN := Lib.hid (show n ≤ 1000 by omega)
  clear hA hI hk0 hk20 hk1 hL hwf hok hl hn
  obtain ⟨W1, hW1⟩ : ∃ W1, W1 = ((w.alloc (.cells #[.int .i64 0] 3)).alloc (.cells #[.int .i64 0] 3)).alloc (.cells #[.bool false] 4) := ⟨_, rfl⟩
  have hB1 : Below w.heap.size w W1 := by rw [hW1]; exact (((Below.refl _ _).alloc (Nat.le_refl _) _).alloc (by simp) _).alloc (by simp; omega) _
  refine (callsIn_wide (n := 3)).1 ?_
  refine callsIn_of_wp_marks Try.func17 rfl trivial ?_ rfl
  simp only [Try.ntmps17, List.size_toArray, List.length_cons, List.length_nil, Nat.reduceAdd, Nat.reduceSub, Array.replicate_succ, Array.replicate_zero, List.push_toArray, List.append_toArray, List.nil_append, List.cons_append]
  gi_wp2
  rw [← hW1]
  refine ⟨trivial, (callsIn_wide.2 (HA.out _ hB1)).mono ?_⟩
  rintro e w2 ⟨rfl, rfl⟩
  rw [hW1]
  gi_wp2
  refine ⟨trivial, (back_in Fence.wide _ trivial rfl _ _ _ _).mono ?_⟩
  rintro e w3 ⟨rfl, rfl⟩
  gi_wp2
  have hBs := hB1.size
  obtain ⟨W6, hW6⟩ : ∃ W6, W6 = (((w2.alloc (.cells #[.int .i64 1] 3)).alloc (.cells #[.int .i64 0] 3)).alloc (.cells #[.slice (some ⟨b, off, none⟩) n c] 32)) := ⟨_, rfl⟩
  have hB6 : Below w.heap.size w W6 := by rw [hW6]; exact ((hB1.alloc hBs _).alloc (by simp; omega) _).alloc (by simp; omega) _
  obtain ⟨hM6, cB, hs6⟩ : QM w.heap.size W6 1 0 ∧ W6.cell? ⟨w.heap.size + 1 + 1 + 1 + 1 + 1, 0, none⟩ = some (.slice (some ⟨b, off, none⟩) n c) ∧ W6.heap.size = w.heap.size + 1 + 1 + 1 + 1 + 1 + 1 := by
    rw [hW6, hW1]
    exact six w _
  rw [← hW1, ← hW6]
  have HC := Lib.hid hs6
  clear hW6 hW1 hB1 hBs w2 HA hs6
  refine wpIn_rangeFunc_ownG rfl (by decide) (gf := 58) (lb := #[.pointer (some ⟨w.heap.size + 1 + 1 + 1 + 1 + 1, 0, none⟩)]) rfl trivial (enters_of Try.func58 (by kernel_rfl) rfl)
    (back_stops Fence.wide _ trivial rfl (by decide) (w.heap.size + 1 + 1 + 1 + 1 + 1) w.heap.size b off n c (qiOf L) HN.out W6 (by rw [HC.out]; omega) hB6.size hb cB (HI.out W6 hB6)) Kb.trans (Kb.put hB6.size) (Below.refl _ _) (fun _ => rfl)
    (fun pre W => (∃ a d, quoP pre = some (a, d) ∧ 1 ≤ a ∧ a ≤ 1000 ∧ 0 ≤ d ∧ d ≤ 1000 ∧ QM w.heap.size W a d) ∧ Below w.heap.size w W)
    (fun c pre W => (c = .ret ∧ quoP pre = none ∧ ∃ a d, QM w.heap.size W a d) ∧ Below w.heap.size w W)
    (OwnFrom.and (Own.from (fun s A B row hs hg hr => by obtain ⟨a, d, e, h1, h2, h3, h4, hM⟩ := hs; exact ⟨a, d, e, h1, h2, h3, h4, hM.kept hg hr⟩) _) (ownFrom_below (Nat.le_refl _) hB6.size))
    (fun c => OwnFrom.and (Own.from (fun s A B row hs hg hr => by obtain ⟨hc, e, a, d, hM⟩ := hs; exact ⟨hc, e, a, d, hM.kept hg hr⟩) _) (ownFrom_below (Nat.le_refl _) hB6.size))
    ⟨⟨1, 0, rfl, by decide, by decide, by decide, by decide, hM6⟩, hB6⟩
    (fun x => { tmps := #[.slice (some ⟨b, off, none⟩) n c, undef, .pointer (some ⟨w.heap.size, 0, none⟩), .pointer (some ⟨w.heap.size + 1, 0, none⟩), .pointer (some ⟨w.heap.size + 1 + 1, 0, none⟩), .pointer (some ⟨w.heap.size + 1 + 1 + 1, 0, none⟩), .pointer (some ⟨w.heap.size + 1 + 1 + 1 + 1, 0, none⟩), undef, .int .i64 x.2.1, .slice (some ⟨b, off, none⟩) n c, .bool true, .bool false, .slice (some ⟨b, off, none⟩) n c, .func (.func 58) #[] #[.pointer (some ⟨w.heap.size + 1 + 1 + 1 + 1 + 1, 0, none⟩)], .int .i64 (x.1 : Int), .int .i64 x.2.1, undef, undef, undef, undef, undef, undef, undef, undef, undef, undef, undef, undef, undef, undef], defers := [] }) ?assign ?body ?done ?stop
  case assign =>
    intro l x W K hK
    gi_wp2
    exact hK
  case body =>
    rintro l pre ⟨i, q, hq1, hq2⟩ W ⟨⟨a, d, hq, h1, h2, h3, h4, hM⟩, hB⟩ _
    dsimp only
    obtain ⟨c2, c3, c4, c5, c6, f2, f3, f4, f5, f6⟩ := id hM
    have hdv : (1000 - d).tdiv a = (1000 - d) / a := Int.tdiv_eq_ediv_of_nonneg (by omega)
    have hz : (a == 0) = false := by rw [beq_eq_false_iff_ne]; omega
    have hz' : ¬ a = 0 := by omega
    have hm := Int.le_ediv_iff_mul_le (a := q) (b := 1000 - d) (c := a) (by omega)
    have hv0 : 0 ≤ (1000 - d) / a := Int.ediv_nonneg (by omega) (by omega)
    have hv1 : (1000 - d) / a ≤ 1000 := Int.le_trans (Int.ediv_le_self _ (by omega)) (by omega)
    have HM := Lib.hid hM
    have HQ := Lib.hid hq
    obtain ⟨v, hv⟩ : ∃ v, (1000 - d) / a = v := ⟨_, rfl⟩
    rw [hv] at hdv hm hv0 hv1
    clear hM hq hv
    by_cases hle : q * a ≤ 1000 - d
    · have ht : ¬ v < q := by have := hm.2 hle; omega
      have hp : 0 ≤ q * a := Int.mul_nonneg (by omega) (by omega)
      have hp1 : 1 ≤ q * a + d := by
        have := Int.mul_le_mul_of_nonneg_left h1 (by omega : 0 ≤ q)
        omega
      have hst : qStep (some (a, d)) q = some (q * a + d, a) := by unfold qStep; simp only; rw [if_pos (by omega)]
      have HS := Lib.hid hst
      clear hm hst
      gi_wp2
      exact ⟨((KeepsOthers.setCell _ _ _).trans (KeepsOthers.setCell _ _ _)).from _, (Kb.set (by simp; omega) (far_ne (by omega))).trans (Kb.set (by simp; omega) (far_ne (by omega))),
        ⟨q * a + d, a, by rw [quoP_snoc, HQ.out, HS.out], by omega, by omega, by omega, by omega, (HM.out.s5 _).s6 _⟩,
        (hB.setCell (p := ⟨w.heap.size + 1 + 1 + 1, 0, none⟩) (by simp; omega) _).setCell (p := ⟨w.heap.size + 1 + 1 + 1 + 1, 0, none⟩) (by simp; omega) _⟩
    · have ht : v < q := by
        apply Int.lt_of_not_ge
        intro h
        exact hle (hm.1 h)
      have hst : qStep (some (a, d)) q = none := by unfold qStep; simp only; rw [if_neg (by omega)]
      have HS := Lib.hid hst
      clear hm hst hle
      gi_wp2
      exact ⟨(((KeepsOthers.setCell _ _ _).trans (KeepsOthers.setCell _ _ _)).trans (KeepsOthers.setCell _ _ _)).from _, ⟨rfl, by rw [quoP_snoc, HQ.out, HS.out], a, d, HM.out.z2.z3.z4⟩,
        ((hB.setCell (p := ⟨w.heap.size, 0, none⟩) (Nat.le_refl _) _).setCell (p := ⟨w.heap.size + 1, 0, none⟩) (by simp) _).setCell (p := ⟨w.heap.size + 1 + 1, 0, none⟩) (by simp; omega) _⟩
  case done =>
    rintro D ys W hD rfl ⟨⟨a, d, hq, h1, h2, h3, h4, hM⟩, hB⟩ hK
    obtain ⟨c2, c3, c4, c5, c6, f2, f3, f4, f5, f6⟩ := id hM
    have hR := HP.out n (Nat.le_refl _)
    rw [hq, Nat.sub_self, List.drop_zero] at hR
    have HR := Lib.hid (quoR_some HO.out hR.symm)
    clear hq hR
    gi_wp2
    gi_region
    gi_wp2
    obtain ⟨W', hW'⟩ : ∃ W', W' = (((W.setCell ⟨w.heap.size, 0, none⟩ (.int .i64 a)).setCell ⟨w.heap.size + 1, 0, none⟩ (.int .i64 d)).setCell ⟨w.heap.size + 1 + 1, 0, none⟩ (.bool true)).drew := ⟨_, rfl⟩
    have hKO : KeepsOthers W W' := by rw [hW']; exact (((KeepsOthers.setCell _ _ _).trans (KeepsOthers.setCell _ _ _)).trans (KeepsOthers.setCell _ _ _)).trans (KeepsOthers.drew _)
    have hK' := hKO.same D _ hK rfl
    have g2 : W'.cell? ⟨w.heap.size, 0, none⟩ = some (.int .i64 a) := by rw [hW', cell_drew_own]; exact (World.cell?_setCell_other _ _ _ _ (far_ne (by omega))).trans ((World.cell?_setCell_other _ _ _ _ (far_ne (by omega))).trans (World.cell?_setCell_same _ _ _ hM.c2))
    have g3 : W'.cell? ⟨w.heap.size + 1, 0, none⟩ = some (.int .i64 d) := by rw [hW', cell_drew_own]; exact (World.cell?_setCell_other _ _ _ _ (far_ne (by omega))).trans (World.cell?_setCell_same _ _ _ ((World.cell?_setCell_other _ _ _ _ (far_ne (by omega))).trans hM.c3))
    have g4 : W'.cell? ⟨w.heap.size + 1 + 1, 0, none⟩ = some (.bool true) := by rw [hW', cell_drew_own]; exact World.cell?_setCell_same _ _ _ ((World.cell?_setCell_other _ _ _ _ (far_ne (by omega))).trans ((World.cell?_setCell_other _ _ _ _ (far_ne (by omega))).trans hM.c4))
    have hB' : Below w.heap.size w W' := by rw [hW']; exact (((hB.setCell (p := ⟨w.heap.size, 0, none⟩) (Nat.le_refl _) _).setCell (p := ⟨w.heap.size + 1, 0, none⟩) (by simp) _).setCell (p := ⟨w.heap.size + 1 + 1, 0, none⟩) (by simp; omega) _).drew
    rw [← hW']
    clear hW' hKO hB hM
    refine ⟨by simp, .inl ⟨_, _, rfl, run_takeDeferred hK', ?_⟩⟩
    have hc2 := cell_kept g2 (grownBy_putObj' _ D (.deferred none)) (fun r e => by cases e; exact ⟨_, hK', rfl⟩)
    have hc3 := cell_kept g3 (grownBy_putObj' _ D (.deferred none)) (fun r e => by cases e; exact ⟨_, hK', rfl⟩)
    have hc4 := cell_kept g4 (grownBy_putObj' _ D (.deferred none)) (fun r e => by cases e; exact ⟨_, hK', rfl⟩)
    refine ⟨.tuple #[.int .i64 a, .int .i64 d, .bool true], by simp [results, Try.f17, go_sem, hc2, hc3, hc4], RetQ.yes HR.out (hB'.trans (belowK_b (w := w) (Nat.le_refl _) W' D _ _ (by have := HC.out; omega) hK' rfl rfl))⟩
  case stop =>
    rintro D c pre W hD ⟨k, hk, rfl⟩ ⟨⟨rfl, hq, a, d, hM⟩, hB⟩ hK
    have hR := HP.out k hk
    rw [hq] at hR
    have HR := Lib.hid (quoR_none (quoF_drop hR.symm))
    clear hq hR
    gi_wp2
    refine ⟨by simp, .inl ⟨_, _, rfl, run_takeDeferred hK, ?_⟩⟩
    have hc2 := cell_kept hM.c2 (grownBy_putObj' _ D (.deferred none)) (fun r e => by cases e; exact ⟨_, hK, rfl⟩)
    have hc3 := cell_kept hM.c3 (grownBy_putObj' _ D (.deferred none)) (fun r e => by cases e; exact ⟨_, hK, rfl⟩)
    have hc4 := cell_kept hM.c4 (grownBy_putObj' _ D (.deferred none)) (fun r e => by cases e; exact ⟨_, hK, rfl⟩)
    refine ⟨.tuple #[.int .i64 0, .int .i64 0, .bool false], by simp [results, Try.f17, go_sem, hc2, hc3, hc4], RetQ.no HR.out (hB.trans (belowK_b (w := w) (Nat.le_refl _) W D _ _ (by have := HC.out; omega) hK rfl rfl))⟩

theorem implQuo_any (A : Option Addr) (n c : Nat) (L : List Int) (w : World) (hl : L.length = n) (hn : n ≤ 1048576) (hL : IntsAt w w.heap.size A L) (hwf : ∀ s ∈ L, wfI s) :
    Calls Try.prog 17 #[.slice A n c] w (RetQ w L) := by
  by_cases hok : QOk L
  · obtain ⟨b, off, rfl, _, _⟩ := hL 0 _ (List.getElem?_eq_getElem (Nat.pos_of_ne_zero hok.1))
    exact implQuo_yes b off n c L w hl hn hL hwf hok
  · exact implQuo_no A n c L w hl hn hL hok
end Go.Proofs.Ytakghnaklimliaa
