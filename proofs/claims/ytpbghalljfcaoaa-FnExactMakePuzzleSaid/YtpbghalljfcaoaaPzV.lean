/- slices.Values over a list of squares, and the program's count of those with a side. -/
import Derived.Test.YtpbghalljfcaoaaPzG
import Derived.Shelf.RegionOpen
import Derived.RangeFuncNested
import Derived.RangeFuncBound
import Derived.LoopIn
import Derived.LoopNIn
import Derived.OwnWalkIn
import Derived.RangeFuncBox
import Derived.RangeFuncCalls
import Derived.RangeFuncLeaves
import Derived.TacticsInMore
set_option linter.all false
namespace Go.Proofs.Ytpbghalljfcaoaa
open Go.RowKit Go.Shelf
attribute [local go_sem] Oper.semAt_some

set_option maxRecDepth 100000 in
set_option maxHeartbeats 4000000 in
theorem valuesQ1 (F : Fence) (n : Nat) (h7 : F.fn 92) (hro : F.round = none) (hn : 1 ≤ n) (l Bs n₀ len cap : Nat) (A : Option Addr) (L : List Sq) (hlen : L.length = len) (hreach : len ≤ 1000) (J Jx : List Sq → World → Prop)
    (hJ : ∀ s A o, J s A → J s (A.alloc o))
    (hY : ∀ pre x W, J pre W → pre.length < len → YieldAt F (n - 1) Try.prog l #[.agg #[.int .i64 x.x, .int .i64 x.y, .int .i64 x.d]] W fun e W' =>
      (e = .returned (.bool true) ∧ J (pre ++ [x]) W' ∧ Below n₀ W W') ∨ (e = .returned (.bool false) ∧ Jx (pre ++ [x]) W'))
    (W : World) (hn₀ : n₀ ≤ W.heap.size) (hBs : W.cell? ⟨Bs, 0, none⟩ = some (.slice A len cap)) (hc : SqsAt W n₀ A L) (h0 : J [] W) :
    CallsIn F n Try.prog 92 #[.func (.yield l) #[] #[], .pointer (some ⟨Bs, 0, none⟩)] W fun e W' => (∃ v, e = .returned v) ∧
      ((∃ ys, ys = L ∧ J ys W') ∨ (∃ pre, (∃ k, k ≤ len ∧ pre = L.take k) ∧ Jx pre W')) := by
  refine callsIn_of_wp Try.func92 rfl h7 ?_ hro
  simp only [Try.ntmps92, List.size_toArray, List.length_cons, List.length_nil, Nat.reduceAdd, Nat.reduceSub, Array.replicate_succ, Array.replicate_zero, List.push_toArray, List.append_toArray, List.nil_append, List.cons_append]
  gi_wp2
  gi_loopw [7] (fun i wr => ∃ k : Nat, k ≤ len ∧ i = .int .i64 k ∧ J (L.take k) wr ∧ Below n₀ W wr)
    (fun i _ => len - (intOf i).toNat)
  case atStart => exact ⟨0, Nat.zero_le _, rfl, h0, Below.refl _ _⟩
  case round =>
    obtain ⟨k, hk, rfl, hJs, hnx⟩ := hrel
    by_cases hlt : k < len
    · obtain ⟨u, hu⟩ : ∃ u, L[k]? = some u := ⟨_, List.getElem?_eq_getElem (by omega)⟩
      obtain ⟨b, off, rfl, hb, c0, c1, c2⟩ := hc k u hu
      have c0' := (hnx.cell (p := ⟨b, off + k * 3, none⟩) hb).trans c0
      have c1' := (hnx.cell (p := ⟨b, off + k * 3 + 1, none⟩) hb).trans c1
      have c2' := (hnx.cell (p := ⟨b, off + k * 3 + 2, none⟩) hb).trans c2
      have hup : L.take (k + 1) = L.take k ++ [u] := by rw [List.take_add_one, hu]; rfl
      have hlk : (L.take k).length < len := by rw [List.length_take]; omega
      have hs0 : n₀ ≤ wr.heap.size := Nat.le_trans hn₀ hnx.size
      have hb1 : Below n₀ wr (wr.alloc (.cells #[.int .i64 u.x, .int .i64 u.y, .int .i64 u.d] 85)) := (Below.refl _ _).alloc hs0 _
      obtain ⟨fn, tmps, assign, body, hy, hR⟩ := hY _ u _ (hJ _ _ (.cells #[.int .i64 u.x, .int .i64 u.y, .int .i64 u.d] 85) hJs) hlk
      have HUP := Lib.hid hup
      have i0 : (0 : Int) ≤ (k : Int) := by omega
      have i1 : (k : Int) < (len : Int) := by omega
      clear hup hu hlen hc c0 c1 c2 hY hJ
      gi_wp2
      refine hR.mono ?_
      rintro e W3 (⟨rfl, hJ3, hk3⟩ | ⟨rfl, hJx3⟩)
      · gi_wp2
        go_roundw
        case rel => exact ⟨k + 1, by omega, by simp, by rw [HUP.out]; exact hJ3, hnx.trans (hb1.trans hk3)⟩
        case measure => simp [intOf]; omega
      · gi_wp2
        refine bodyPost_ret (results_none rfl _ _ _) rfl ?_
        exact ⟨⟨_, rfl⟩, .inr ⟨_, ⟨k + 1, by omega, HUP.out.symm⟩, hJx3⟩⟩
    · obtain rfl : k = len := by omega
      have ht : L.take k = L := List.take_of_length_le (by omega)
      rw [ht] at hJs
      clear hlen
      gi_wp2
      go_end0
      exact ⟨⟨_, rfl⟩, .inl ⟨_, rfl, hJs⟩⟩
theorem valuesQ_stops (n : Nat) (hn : 1 ≤ n) (Bs len cap : Nat) (A : Option Addr) (L : List Sq) (hlen : L.length = len) (hreach : len ≤ 1000) (w w0 : World) (hB : Below w0.heap.size w0 w) (hBs : w.cell? ⟨Bs, 0, none⟩ = some (.slice A len cap)) (hL : SqsAt w0 w0.heap.size A L) :
    SeqStopsK Fence.wide n Try.prog 92 #[.pointer (some ⟨Bs, 0, none⟩)] (fun x : Sq => #[Value.agg #[.int .i64 x.x, .int .i64 x.y, .int .i64 x.d]]) (Below w0.heap.size) (fun ys => ys = L) (fun _ => True) len w := fun l J Jx W hW hab _ hY h0 => by
  have hc' := (hW.cell (p := ⟨Bs, 0, none⟩) (World.block_lt_of_cell? _ _ hBs)).trans hBs
  have hL' : SqsAt W w0.heap.size A L := hL.below (hB.trans (hW.mono hB.size))
  refine (valuesQ1 Fence.wide n trivial rfl hn l Bs w0.heap.size len cap A L hlen hreach J Jx (fun s A o h => hab s A _ none h (World.grownBy_alloc A o none) (fun r e => by cases e)) hY W (Nat.le_trans hB.size hW.size) hc' hL' h0).mono ?_
  rintro e W' ⟨he, ⟨ys, rfl, hj⟩ | ⟨pre, _, hj⟩⟩
  · exact ⟨he, .inl ⟨_, rfl, hj⟩⟩
  · exact ⟨he, .inr ⟨_, trivial, hj⟩⟩
theorem valuesQ_any (A : Option Addr) (n c : Nat) (w : World) :
    Calls Try.prog 68 #[.slice A n c] w fun e w' => e = .returned (.func (.func 92) #[] #[.pointer (some ⟨w.heap.size, 0, none⟩)]) ∧ w' = w.alloc (.cells #[.slice A n c] 45) := by
  go_enter Try.func68, Try.ntmps68
  go_wp2
  go_ret
  exact ⟨rfl, rfl⟩
/-- A sum's boxes. -/
structure SQ (N : Nat) (t : Value) (s : Int) (w W : World) : Prop where
  c0 : W.cell? ⟨N, 0, none⟩ = some t
  c1 : W.cell? ⟨N + 1, 0, none⟩ = some (.int .i64 s)
  f1 : W.frozen? ⟨N + 1, 0, none⟩ = false
  b : Below N w W
theorem SQ.keep {N : Nat} {t : Value} {s : Int} {w A C : World} {L : Nat} (h : SQ N t s w A) (hb : Below L A C) (h2 : N + 2 ≤ L) : SQ N t s w C :=
  ⟨(hb.cell (p := ⟨N, 0, none⟩) (by show N < L; omega)).trans h.c0, (hb.cell (p := ⟨N + 1, 0, none⟩) (by show N + 1 < L; omega)).trans h.c1, (hb.frozen (p := ⟨N + 1, 0, none⟩) (by show N + 1 < L; omega)).trans h.f1, h.b.trans (hb.mono (by omega))⟩
theorem SQ.put {N : Nat} {t : Value} {s : Int} {w A : World} (h : SQ N t s w A) (v : Int) : SQ N t v w (A.setCell ⟨N + 1, 0, none⟩ (.int .i64 v)) :=
  ⟨(World.cell?_setCell_other _ _ _ _ (fun e => by have := (Addr.mk.inj e).1; omega)).trans h.c0, World.cell?_setCell_same _ _ _ h.c1, by rw [World.frozen?_setCell]; exact h.f1, h.b.setCell (p := ⟨N + 1, 0, none⟩) (by simp) _⟩
theorem SQ.lt {N : Nat} {t : Value} {s : Int} {w A : World} (h : SQ N t s w A) : N + 2 ≤ A.heap.size := by
  have := World.block_lt_of_cell? _ _ h.c1
  dsimp only at this
  omega
theorem keepsFromQ_below {B : Nat} {A C : World} (h : Below A.heap.size A C) : KeepsFrom B A C := ⟨h.size, fun k o _ hk _ => (h.block k (Array.getElem?_eq_some_iff.1 hk).1).trans hk⟩
theorem sideN_app (pre : List Sq) (x : Sq) (a : Int) : sideN (pre ++ [x]) a = sideN pre a + (if x.d == a then 1 else 0) := by
  unfold sideN
  rw [List.filter_append, List.length_append]
  cases h : x.d == a <;> simp [h]
theorem sideN_le (L : List Sq) (a : Int) : sideN L a ≤ L.length := List.length_filter_le _ _
/-- What the closures find: the clue's box at Bc, the asked function's at Bi. -/
theorem tellQ_any (s : Sq) (a : Int) (Bi Bc : Nat) (V : World) (hi : V.cell? ⟨Bi, 0, none⟩ = some (.func (.func 69) #[] #[.pointer (some ⟨Bc, 0, none⟩)])) (hc : V.cell? ⟨Bc, 1, none⟩ = some (.int .i64 a)) :
    Calls Try.prog 91 #[.agg #[.int .i64 s.x, .int .i64 s.y, .int .i64 s.d], .pointer (some ⟨Bi, 0, none⟩)] V fun e V' => e = .returned (.int .i64 (if s.d == a then 1 else 0)) ∧ Below V.heap.size V V' := by
  have h1 := World.block_lt_of_cell? _ _ hi
  have h2 := World.block_lt_of_cell? _ _ hc
  dsimp only at h1 h2
  have hne : V.heap.size ≠ Bc := by omega
  have hne1 : V.heap.size ≠ Bi := by omega
  have C : Calls Try.prog 69 #[.agg #[.int .i64 s.x, .int .i64 s.y, .int .i64 s.d], .pointer (some ⟨Bc, 0, none⟩)] (V.alloc (.cells #[.int .i64 s.x, .int .i64 s.y, .int .i64 s.d] 85)) fun e V' => e = .returned (.bool (s.d == a)) ∧ Below (V.alloc (.cells #[.int .i64 s.x, .int .i64 s.y, .int .i64 s.d] 85)).heap.size (V.alloc (.cells #[.int .i64 s.x, .int .i64 s.y, .int .i64 s.d] 85)) V' := by
    have hc' : (V.alloc (.cells #[.int .i64 s.x, .int .i64 s.y, .int .i64 s.d] 85)).cell? ⟨Bc, 1, none⟩ = some (.int .i64 a) := (World.cell?_alloc_lt _ _ _ h2).trans hc
    generalize (V.alloc (.cells #[.int .i64 s.x, .int .i64 s.y, .int .i64 s.d] 85)) = V1 at hc'
    have hz := World.block_lt_of_cell? _ _ hc'
    dsimp only at hz
    go_enter Try.func69, Try.ntmps69
    go_wp2_with fail
    go_ret
    exact ⟨rfl, (Below.refl _ _).alloc (Nat.le_refl _) _⟩
  have hB : Below V.heap.size V (V.alloc (.cells #[.int .i64 s.x, .int .i64 s.y, .int .i64 s.d] 85)) := (Below.refl _ _).alloc (Nat.le_refl _) _
  cases hs : s.d == a with
  | true =>
    rw [hs] at C
    go_enter Try.func91, Try.ntmps91
    go_wp2_with fail
    refine C.mono ?_
    rintro e V2 ⟨rfl, hb⟩
    go_wp2_with fail
    go_ret
    exact ⟨rfl, hB.trans (hb.mono hB.size)⟩
  | false =>
    rw [hs] at C
    go_enter Try.func91, Try.ntmps91
    go_wp2_with fail
    refine C.mono ?_
    rintro e V2 ⟨rfl, hb⟩
    go_wp2_with fail
    go_ret
    exact ⟨rfl, hB.trans (hb.mono hB.size)⟩
end Go.Proofs.Ytpbghalljfcaoaa
