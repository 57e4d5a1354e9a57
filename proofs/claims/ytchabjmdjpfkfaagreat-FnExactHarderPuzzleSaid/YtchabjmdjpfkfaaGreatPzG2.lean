/- PzG, PzE, PzV, PzW, PzH, PzI, PzJ, PzK: texts in one. -/
import Derived.Test.YtchabjmdjpfkfaaGreatPzF
import Derived.Test.YtchabjmdjpfkfaaGreatSSA
import Derived.Test.YtchabjmdjpfkfaaGreatEdges
import Derived.Test.YtchabjmdjpfkfaaGreatAt
import Derived.Test.YtchabjmdjpfkfaaGreatLongA
import Derived.Shelf.RegionOpen
import Derived.RangeFuncNested
import Derived.RangeFuncBound
import Derived.LoopIn
import Derived.LoopNIn
import Derived.OwnWalkIn
import Derived.RangeFuncBox
import Derived.RangeFuncCalls
import Derived.RangeFuncLeaves
import Derived.TacticsInMore
import Derived.Test.YtchabjmdjpfkfaaGreatEdgesI
import Derived.Laws.StructEq
set_option linter.all false
namespace Go.Proofs.YtchabjmdjpfkfaaGreat
open Go.RowKit

noncomputable def lineN (W H : Int) (L : List Sq) : Int := Classical.epsilon fun m => LongSays W H L m true
theorem lineN_eq {W H m : Int} {L : List Sq} {ok : Bool} (h : LongSays W H L m ok) (hG : Good W H L) : m = lineN W H L := by
  have hok : ok = true := by
    rcases h with ⟨_, h, _⟩ | ⟨h, _⟩
    · exact h
    · exact absurd hG h
  subst hok
  exact (h.unique (Classical.epsilon_spec (p := fun m => LongSays W H L m true) ⟨m, h⟩)).1
noncomputable def atN (W H : Int) (L : List Sq) (x y : Int) : Int := Classical.epsilon fun i => ∃ ok, AtSays W H L x y i ok
theorem atN_eq {W H x y i : Int} {L : List Sq} {ok : Bool} (h : AtSays W H L x y i ok) : i = atN W H L x y := by
  obtain ⟨ok', h'⟩ := Classical.epsilon_spec (p := fun i => ∃ ok, AtSays W H L x y i ok) ⟨i, ok, h⟩
  exact (h.unique h').1
noncomputable def atB (W H : Int) (L : List Sq) (x y : Int) : Bool := Classical.epsilon fun ok => ∃ i, AtSays W H L x y i ok
theorem atB_eq {W H x y i : Int} {L : List Sq} {ok : Bool} (h : AtSays W H L x y i ok) : ok = atB W H L x y := by
  obtain ⟨i', h'⟩ := Classical.epsilon_spec (p := fun ok => ∃ i, AtSays W H L x y i ok) ⟨ok, i, h⟩
  exact (h.unique h').2
theorem at_says {W H x y i : Int} {L : List Sq} {ok : Bool} (h : AtSays W H L x y i ok) : AtSays W H L x y (atN W H L x y) (atB W H L x y) := by
  rw [← atN_eq h, ← atB_eq h]; exact h
theorem at_det {P : Program} {f : FuncId} {args : Array Value} {W H x y : Int} {L : List Sq} {w : World} (h : Calls P f args w (RetAt w W H L x y)) :
    Calls P f args w fun e w' => e = .returned (.tuple #[.int .i64 (atN W H L x y), .bool (atB W H L x y)]) ∧ Below w.heap.size w w' :=
  h.mono fun _ _ ⟨_, _, he, hs, hb⟩ => ⟨by rw [he, atN_eq hs, atB_eq hs], hb⟩
theorem at_lt {W H x y i : Int} {L : List Sq} {ok : Bool} (h : AtSays W H L x y i ok) (hG : Good W H L) : ∃ (k : Nat) (s : Sq), i = k ∧ L[k]? = some s := by
  rcases h with ⟨_, _, k, s, hk, _, _, rfl⟩ | ⟨_, _, rfl⟩
  · exact ⟨k, s, rfl, hk⟩
  · have h1 := hG.2.2.1.1
    exact ⟨0, _, rfl, List.getElem?_eq_getElem (by omega)⟩
/-- The side of the square that a cell is in. -/
noncomputable def cellN (W H : Int) (L : List Sq) (a : Int) : Int := (L[(atN W H L (a.tmod W) (wrap64 (a.tdiv W))).toNat]?.getD default).d
theorem atN_lt (W H : Int) (L : List Sq) (x y : Int) (hG : Good W H L) : ∃ (k : Nat) (s : Sq), atN W H L x y = k ∧ L[k]? = some s := by
  have hex : ∃ i ok, AtSays W H L x y i ok := by
    by_cases h : ∃ (k : Nat) (s : Sq), L[k]? = some s ∧ InSq s x y ∧ ∀ (j : Nat) (t : Sq), j < k → L[j]? = some t → ¬ InSq t x y
    · obtain ⟨k, s, h1, h2, h3⟩ := h
      exact ⟨k, true, .inl ⟨hG, rfl, k, s, h1, h2, h3, rfl⟩⟩
    · refine ⟨0, false, .inr ⟨.inr fun j t ht hin => h ?_, rfl, rfl⟩⟩
      induction j using Nat.strongRecOn generalizing t with
      | ind j ih =>
        by_cases h4 : ∃ (i : Nat) (q : Sq), i < j ∧ L[i]? = some q ∧ InSq q x y
        · obtain ⟨i, q, h5, h6, h7⟩ := h4
          exact ih i h5 q h6 h7
        · exact ⟨j, t, ht, hin, fun i q h5 h6 h7 => h4 ⟨i, q, h5, h6, h7⟩⟩
  obtain ⟨i, ok, h⟩ := hex
  obtain ⟨k, s, hi, hs⟩ := at_lt h hG
  exact ⟨k, s, by rw [← atN_eq h, hi], hs⟩
theorem cellN_eq {W H a : Int} {L : List Sq} {k : Nat} {s : Sq} (h : atN W H L (a.tmod W) (wrap64 (a.tdiv W)) = k) (hs : L[k]? = some s) : cellN W H L a = s.d := by
  unfold cellN
  rw [h]
  simp [hs]
def sideN (L : List Sq) (a : Int) : Nat := (L.filter fun s => s.d == a).length
def edgeN (W H : Int) (L : List Sq) (a : Int) : Int := (edgesU W H L L.length)[a.toNat]?.getD 0
/-- What a clue of a kind tells of a cut. -/
noncomputable def valN (W H : Int) (L : List Sq) (k a : Int) : Int :=
  if k = 0 then L.length else if k = 1 then sideN L a else if k = 2 then cellN W H L a else if k = 3 then edgeN W H L a else if k = 4 then (crossL L L.length).length else lineN W H L
def aloneB (k : Int) : Bool := k == 0 || decide (3 < k)
/-- A clue with what a cut has. -/
noncomputable def hasIt (W H : Int) (L : List Sq) (c : Sq) : Sq := if aloneB c.x then ⟨c.x, valN W H L c.x 0, c.d⟩ else ⟨c.x, c.y, valN W H L c.x c.y⟩
noncomputable def fitN (W H : Int) (L : List Sq) (c : Sq) : Bool := if aloneB c.x then valN W H L c.x 0 == c.y else valN W H L c.x c.y == c.d
theorem hasIt_fit (W H : Int) (L : List Sq) (c : Sq) : fitN W H L c = ((hasIt W H L c).x == c.x && (hasIt W H L c).y == c.y && (hasIt W H L c).d == c.d) := by
  unfold hasIt fitN
  split <;> simp
end Go.Proofs.YtchabjmdjpfkfaaGreat
namespace Go.Proofs.YtchabjmdjpfkfaaGreat
open Go.RowKit

set_option maxRecDepth 100000 in
set_option maxHeartbeats 4000000 in
theorem sideAt_any (W H : Int) (A : Option Addr) (n c : Nat) (L : List Sq) (a : Int) (w : World) (hl : L.length = n) (hc : n ≤ c) (hL : SqsAt w w.heap.size A L) (hwf : ∀ s ∈ L, wfS s) (hG : Good W H L) :
    Calls Tryz.prog 24 #[.agg #[.int .i64 W, .int .i64 H, .slice A n c], .int .i64 a] w fun e w' => e = .returned (.int .i64 (cellN W H L a)) ∧ Below w.heap.size w w' := by
  subst hl
  have B0 : Below w.heap.size w (w.alloc (.cells #[.int .i64 W, .int .i64 H, .slice A L.length c] 48)) := (Below.refl _ _).alloc (Nat.le_refl _) _
  have K0 := Cv3.start w (.int .i64 W) (.int .i64 H) (.slice A L.length c) 48
  have hW0 : W ≠ 0 := by have := hG.1; omega
  go_enter Tryz.func24, Tryz.ntmps24
  go_wp2_with fail
  obtain ⟨W0, hW⟩ : ∃ W0, W0 = w.alloc (.cells #[.int .i64 W, .int .i64 H, .slice A L.length c] 48) := ⟨_, rfl⟩
  rw [← hW] at B0 K0 ⊢
  clear hW
  have C := fun x y (u : Later W0.heap.size W0) => at_det (implAt_any W H A L.length c L x y u.val rfl hc ((hL.below (B0.trans (u.ok.mono B0.size))).mono (Nat.le_trans B0.size u.ok.size)) hwf)
  have F0 : ∀ u : Later W0.heap.size W0, u.val.cell? ⟨w.heap.size, 0, none⟩ = some (.int .i64 W) := fun u => (u.ok.cell (p := ⟨_, _, none⟩) K0.lt).trans K0.c0
  have F1 : ∀ u : Later W0.heap.size W0, u.val.cell? ⟨w.heap.size, 1, none⟩ = some (.int .i64 H) := fun u => (u.ok.cell (p := ⟨_, _, none⟩) K0.lt).trans K0.c1
  have F2 : ∀ u : Later W0.heap.size W0, u.val.cell? ⟨w.heap.size, 2, none⟩ = some (.slice A L.length c) := fun u => (u.ok.cell (p := ⟨_, _, none⟩) K0.lt).trans K0.c2
  obtain ⟨k, s, hk, hs⟩ := atN_lt W H L (a.tmod W) (wrap64 (a.tdiv W)) hG
  obtain ⟨b, off, rfl, hb, c0, c1, c2⟩ := hL k s hs
  have hcell := cellN_eq hk hs
  have hkl := (List.getElem?_eq_some_iff.1 hs).1
  have HS := Lib.hid hs
  have d2 : ∀ w', Below W0.heap.size W0 w' → w'.cell? ⟨b, off + k * 3 + 2, none⟩ = some (.int .i64 s.d) := fun w' h => ((B0.trans (h.mono B0.size)).cell (p := ⟨b, _, none⟩) hb).trans c2
  clear hL c0 c1 c2 hs
  refine wp_region_sub W0.heap.size (by kernel_rfl) (by kernel_rfl) ?_
  repeat (first | go_big_quiet_step ((go_at_call 47; exact sub_of _ (Nat.le_refl _) (C _ _ _))) | quiet_step ((go_at_call 47; exact sub_of _ (Nat.le_refl _) (C _ _ _))))
  refine wpQuiet_nil ?_
  rintro w2 ⟨uu, hu⟩
  have hb2 : Below W0.heap.size W0 w2 := by rw [hu]; exact uu.ok
  clear hu uu
  have m2 := F2 ⟨w2, hb2⟩
  have e2 := d2 w2 hb2
  have i0 : (0 : Int) ≤ (k : Int) := by omega
  have i1 : (k : Int) < (L.length : Int) := by omega
  clear F0 F1 F2 d2 C
  dsimp only at m2
  rw [hk]
  go_wp2_with fail
  go_ret
  exact ⟨by rw [hcell]; rfl, B0.trans (hb2.mono B0.size)⟩
end Go.Proofs.YtchabjmdjpfkfaaGreat
namespace Go.Proofs.YtchabjmdjpfkfaaGreat
open Go.RowKit Go.Shelf
attribute [local go_sem] Oper.semAt_some

set_option maxRecDepth 100000 in
set_option maxHeartbeats 4000000 in
theorem valuesQ1 (F : Fence) (n : Nat) (h7 : F.fn 94) (hro : F.round = none) (hn : 1 ≤ n) (l Bs n₀ len cap : Nat) (A : Option Addr) (L : List Sq) (hlen : L.length = len) (hreach : len ≤ 1000) (J Jx : List Sq → World → Prop)
    (hJ : ∀ s A o, J s A → J s (A.alloc o))
    (hY : ∀ pre x W, J pre W → pre.length < len → YieldAt F (n - 1) Tryz.prog l #[.agg #[.int .i64 x.x, .int .i64 x.y, .int .i64 x.d]] W fun e W' =>
      (e = .returned (.bool true) ∧ J (pre ++ [x]) W' ∧ Below n₀ W W') ∨ (e = .returned (.bool false) ∧ Jx (pre ++ [x]) W'))
    (W : World) (hn₀ : n₀ ≤ W.heap.size) (hBs : W.cell? ⟨Bs, 0, none⟩ = some (.slice A len cap)) (hc : SqsAt W n₀ A L) (h0 : J [] W) :
    CallsIn F n Tryz.prog 94 #[.func (.yield l) #[] #[], .pointer (some ⟨Bs, 0, none⟩)] W fun e W' => (∃ v, e = .returned v) ∧
      ((∃ ys, ys = L ∧ J ys W') ∨ (∃ pre, (∃ k, k ≤ len ∧ pre = L.take k) ∧ Jx pre W')) := by
  refine callsIn_of_wp Tryz.func94 rfl h7 ?_ hro
  simp only [Tryz.ntmps94, List.size_toArray, List.length_cons, List.length_nil, Nat.reduceAdd, Nat.reduceSub, Array.replicate_succ, Array.replicate_zero, List.push_toArray, List.append_toArray, List.nil_append, List.cons_append]
  gi_wp2
  gi_loopw [7] (fun i wr => ∃ k : Nat, k ≤ len ∧ i = .int .i64 k ∧ J (L.take k) wr ∧ Below n₀ W wr)
    (fun i _ => len - (intOf i).toNat)
  case atStart => exact ⟨0, Nat.zero_le _, rfl, h0, Below.refl _ _⟩
  case round =>
    obtain ⟨k, hk, rfl, hJs, hnx⟩ := hrel
    by_cases hlt : k < len
    · obtain ⟨u, hu⟩ : ∃ u, L[k]? = some u := ⟨_, List.getElem?_eq_getElem (by omega)⟩
      obtain ⟨b, off, rfl, hb, c0, c1, c2⟩ := hc k u hu
      have c0' := (hnx.cell (p := ⟨b, off + k * 3, none⟩) hb).trans c0
      have c1' := (hnx.cell (p := ⟨b, off + k * 3 + 1, none⟩) hb).trans c1
      have c2' := (hnx.cell (p := ⟨b, off + k * 3 + 2, none⟩) hb).trans c2
      have hup : L.take (k + 1) = L.take k ++ [u] := by rw [List.take_add_one, hu]; rfl
      have hlk : (L.take k).length < len := by rw [List.length_take]; omega
      have hs0 : n₀ ≤ wr.heap.size := Nat.le_trans hn₀ hnx.size
      have hb1 : Below n₀ wr (wr.alloc (.cells #[.int .i64 u.x, .int .i64 u.y, .int .i64 u.d] 69)) := (Below.refl _ _).alloc hs0 _
      obtain ⟨fn, tmps, assign, body, hy, hR⟩ := hY _ u _ (hJ _ _ (.cells #[.int .i64 u.x, .int .i64 u.y, .int .i64 u.d] 69) hJs) hlk
      have HUP := Lib.hid hup
      have i0 : (0 : Int) ≤ (k : Int) := by omega
      have i1 : (k : Int) < (len : Int) := by omega
      clear hup hu hlen hc c0 c1 c2 hY hJ
      gi_wp2
      refine hR.mono ?_
      rintro e W3 (⟨rfl, hJ3, hk3⟩ | ⟨rfl, hJx3⟩)
      · gi_wp2
        go_roundw
        case rel => exact ⟨k + 1, by omega, by simp, by rw [HUP.out]; exact hJ3, hnx.trans (hb1.trans hk3)⟩
        case measure => simp [intOf]; omega
      · gi_wp2
        refine bodyPost_ret (results_none rfl _ _ _) rfl ?_
        exact ⟨⟨_, rfl⟩, .inr ⟨_, ⟨k + 1, by omega, HUP.out.symm⟩, hJx3⟩⟩
    · obtain rfl : k = len := by omega
      have ht : L.take k = L := List.take_of_length_le (by omega)
      rw [ht] at hJs
      clear hlen
      gi_wp2
      go_end0
      exact ⟨⟨_, rfl⟩, .inl ⟨_, rfl, hJs⟩⟩
theorem valuesQ_stops (n : Nat) (hn : 1 ≤ n) (Bs len cap : Nat) (A : Option Addr) (L : List Sq) (hlen : L.length = len) (hreach : len ≤ 1000) (w w0 : World) (hB : Below w0.heap.size w0 w) (hBs : w.cell? ⟨Bs, 0, none⟩ = some (.slice A len cap)) (hL : SqsAt w0 w0.heap.size A L) :
    SeqStopsK Fence.wide n Tryz.prog 94 #[.pointer (some ⟨Bs, 0, none⟩)] (fun x : Sq => #[Value.agg #[.int .i64 x.x, .int .i64 x.y, .int .i64 x.d]]) (Below w0.heap.size) (fun ys => ys = L) (fun _ => True) len w := fun l J Jx W hW hab _ hY h0 => by
  have hc' := (hW.cell (p := ⟨Bs, 0, none⟩) (World.block_lt_of_cell? _ _ hBs)).trans hBs
  have hL' : SqsAt W w0.heap.size A L := hL.below (hB.trans (hW.mono hB.size))
  refine (valuesQ1 Fence.wide n trivial rfl hn l Bs w0.heap.size len cap A L hlen hreach J Jx (fun s A o h => hab s A _ none h (World.grownBy_alloc A o none) (fun r e => by cases e)) hY W (Nat.le_trans hB.size hW.size) hc' hL' h0).mono ?_
  rintro e W' ⟨he, ⟨ys, rfl, hj⟩ | ⟨pre, _, hj⟩⟩
  · exact ⟨he, .inl ⟨_, rfl, hj⟩⟩
  · exact ⟨he, .inr ⟨_, trivial, hj⟩⟩
theorem valuesQ_any (A : Option Addr) (n c : Nat) (w : World) :
    Calls Tryz.prog 78 #[.slice A n c] w fun e w' => e = .returned (.func (.func 94) #[] #[.pointer (some ⟨w.heap.size, 0, none⟩)]) ∧ w' = w.alloc (.cells #[.slice A n c] 46) := by
  go_enter Tryz.func78, Tryz.ntmps78
  go_wp2
  go_ret
  exact ⟨rfl, rfl⟩
/-- A sum's boxes. -/
structure SQ (N : Nat) (t : Value) (s : Int) (w W : World) : Prop where
  c0 : W.cell? ⟨N, 0, none⟩ = some t
  c1 : W.cell? ⟨N + 1, 0, none⟩ = some (.int .i64 s)
  f1 : W.frozen? ⟨N + 1, 0, none⟩ = false
  b : Below N w W
theorem SQ.keep {N : Nat} {t : Value} {s : Int} {w A C : World} {L : Nat} (h : SQ N t s w A) (hb : Below L A C) (h2 : N + 2 ≤ L) : SQ N t s w C :=
  ⟨(hb.cell (p := ⟨N, 0, none⟩) (by show N < L; omega)).trans h.c0, (hb.cell (p := ⟨N + 1, 0, none⟩) (by show N + 1 < L; omega)).trans h.c1, (hb.frozen (p := ⟨N + 1, 0, none⟩) (by show N + 1 < L; omega)).trans h.f1, h.b.trans (hb.mono (by omega))⟩
theorem SQ.put {N : Nat} {t : Value} {s : Int} {w A : World} (h : SQ N t s w A) (v : Int) : SQ N t v w (A.setCell ⟨N + 1, 0, none⟩ (.int .i64 v)) :=
  ⟨(World.cell?_setCell_other _ _ _ _ (fun e => by have := (Addr.mk.inj e).1; omega)).trans h.c0, World.cell?_setCell_same _ _ _ h.c1, by rw [World.frozen?_setCell]; exact h.f1, h.b.setCell (p := ⟨N + 1, 0, none⟩) (by simp) _⟩
theorem SQ.lt {N : Nat} {t : Value} {s : Int} {w A : World} (h : SQ N t s w A) : N + 2 ≤ A.heap.size := by
  have := World.block_lt_of_cell? _ _ h.c1
  dsimp only at this
  omega
theorem keepsFromQ_below {B : Nat} {A C : World} (h : Below A.heap.size A C) : KeepsFrom B A C := ⟨h.size, fun k o _ hk _ => (h.block k (Array.getElem?_eq_some_iff.1 hk).1).trans hk⟩
theorem sideN_app (pre : List Sq) (x : Sq) (a : Int) : sideN (pre ++ [x]) a = sideN pre a + (if x.d == a then 1 else 0) := by
  unfold sideN
  rw [List.filter_append, List.length_append]
  cases h : x.d == a <;> simp [h]
theorem sideN_le (L : List Sq) (a : Int) : sideN L a ≤ L.length := List.length_filter_le _ _
/-- What the closures find: the clue's box at Bc, the asked function's at Bi. -/
theorem tellQ_any (s : Sq) (a : Int) (Bi Bc : Nat) (V : World) (hi : V.cell? ⟨Bi, 0, none⟩ = some (.func (.func 79) #[] #[.pointer (some ⟨Bc, 0, none⟩)])) (hc : V.cell? ⟨Bc, 1, none⟩ = some (.int .i64 a)) :
    Calls Tryz.prog 93 #[.agg #[.int .i64 s.x, .int .i64 s.y, .int .i64 s.d], .pointer (some ⟨Bi, 0, none⟩)] V fun e V' => e = .returned (.int .i64 (if s.d == a then 1 else 0)) ∧ Below V.heap.size V V' := by
  have h1 := World.block_lt_of_cell? _ _ hi
  have h2 := World.block_lt_of_cell? _ _ hc
  dsimp only at h1 h2
  have hne : V.heap.size ≠ Bc := by omega
  have hne1 : V.heap.size ≠ Bi := by omega
  have C : Calls Tryz.prog 79 #[.agg #[.int .i64 s.x, .int .i64 s.y, .int .i64 s.d], .pointer (some ⟨Bc, 0, none⟩)] (V.alloc (.cells #[.int .i64 s.x, .int .i64 s.y, .int .i64 s.d] 69)) fun e V' => e = .returned (.bool (s.d == a)) ∧ Below (V.alloc (.cells #[.int .i64 s.x, .int .i64 s.y, .int .i64 s.d] 69)).heap.size (V.alloc (.cells #[.int .i64 s.x, .int .i64 s.y, .int .i64 s.d] 69)) V' := by
    have hc' : (V.alloc (.cells #[.int .i64 s.x, .int .i64 s.y, .int .i64 s.d] 69)).cell? ⟨Bc, 1, none⟩ = some (.int .i64 a) := (World.cell?_alloc_lt _ _ _ h2).trans hc
    generalize (V.alloc (.cells #[.int .i64 s.x, .int .i64 s.y, .int .i64 s.d] 69)) = V1 at hc'
    have hz := World.block_lt_of_cell? _ _ hc'
    dsimp only at hz
    go_enter Tryz.func79, Tryz.ntmps79
    go_wp2_with fail
    go_ret
    exact ⟨rfl, (Below.refl _ _).alloc (Nat.le_refl _) _⟩
  have hB : Below V.heap.size V (V.alloc (.cells #[.int .i64 s.x, .int .i64 s.y, .int .i64 s.d] 69)) := (Below.refl _ _).alloc (Nat.le_refl _) _
  cases hs : s.d == a with
  | true =>
    rw [hs] at C
    go_enter Tryz.func93, Tryz.ntmps93
    go_wp2_with fail
    refine C.mono ?_
    rintro e V2 ⟨rfl, hb⟩
    go_wp2_with fail
    go_ret
    exact ⟨rfl, hB.trans (hb.mono hB.size)⟩
  | false =>
    rw [hs] at C
    go_enter Tryz.func93, Tryz.ntmps93
    go_wp2_with fail
    refine C.mono ?_
    rintro e V2 ⟨rfl, hb⟩
    go_wp2_with fail
    go_ret
    exact ⟨rfl, hB.trans (hb.mono hB.size)⟩
end Go.Proofs.YtchabjmdjpfkfaaGreat
namespace Go.Proofs.YtchabjmdjpfkfaaGreat
open Go.RowKit Go.Shelf
attribute [local go_sem] Oper.semAt_some

set_option maxRecDepth 100000 in
set_option maxHeartbeats 16000000 in
theorem sumQ_any (Bs Bi Bc len cap : Nat) (A : Option Addr) (L : List Sq) (a : Int) (w : World) (hlen : L.length = len) (hreach : len ≤ 1000) (hBs : w.cell? ⟨Bs, 0, none⟩ = some (.slice A len cap)) (hL : SqsAt w w.heap.size A L)
    (hi : w.cell? ⟨Bi, 0, none⟩ = some (.func (.func 79) #[] #[.pointer (some ⟨Bc, 0, none⟩)])) (hc : w.cell? ⟨Bc, 1, none⟩ = some (.int .i64 a)) :
    Calls Tryz.prog 92 #[(.func (.func 94) #[] #[.pointer (some ⟨Bs, 0, none⟩)]), (.func (.func 93) #[] #[.pointer (some ⟨Bi, 0, none⟩)])] w fun e w' => e = .returned (.int .i64 (sideN L a)) ∧ Below w.heap.size w w' := by
  obtain ⟨W2, hW2⟩ : ∃ W2, W2 = (w.alloc (.cells #[(.func (.func 93) #[] #[.pointer (some ⟨Bi, 0, none⟩)])] 125)).alloc (.cells #[.int .i64 0] 3) := ⟨_, rfl⟩
  have hz2 : W2.heap.size = w.heap.size + 2 := by rw [hW2]; simp
  have hB2 : Below w.heap.size w W2 := by rw [hW2]; exact ((Below.refl _ _).alloc (Nat.le_refl _) _).alloc (by simp) _
  have hS2 : SQ w.heap.size (.func (.func 93) #[] #[.pointer (some ⟨Bi, 0, none⟩)]) (sideN [] a) w W2 := by
    refine ⟨?_, ?_, ?_, hB2⟩
    · rw [hW2, World.cell?_alloc_lt _ _ _ (by simp)]; simp [go_sem]
    · rw [hW2]; simp [go_sem, sideN]
    · rw [hW2]; exact World.frozen?_alloc_at _ _ _ _ (by simp)
  have hc2 := (hB2.cell (p := ⟨Bs, 0, none⟩) (World.block_lt_of_cell? _ _ hBs)).trans hBs
  have hBi := World.block_lt_of_cell? _ _ hi
  have hBc := World.block_lt_of_cell? _ _ hc
  dsimp only at hBi hBc
  have CT : ∀ (V : World) (s : Sq), Below w.heap.size w V → Calls Tryz.prog 93 #[.agg #[.int .i64 s.x, .int .i64 s.y, .int .i64 s.d], .pointer (some ⟨Bi, 0, none⟩)] V fun e V' => e = .returned (.int .i64 (if s.d == a then 1 else 0)) ∧ Below V.heap.size V V' := fun V s hb =>
    tellQ_any s a Bi Bc V ((hb.cell (p := ⟨Bi, 0, none⟩) hBi).trans hi) ((hb.cell (p := ⟨Bc, 1, none⟩) hBc).trans hc)
  have HCT := Lib.hid CT
  clear CT hi hc
  refine (callsIn_wide (n := 5)).1 ?_
  refine callsIn_of_wp_marks Tryz.func92 rfl trivial ?_ rfl
  simp only [Tryz.ntmps92, List.size_toArray, List.length_cons, List.length_nil, Nat.reduceAdd, Nat.reduceSub, Array.replicate_succ, Array.replicate_zero, List.push_toArray, List.append_toArray, List.nil_append, List.cons_append]
  gi_wp2
  rw [← hW2]
  clear hW2
  refine wpIn_rangeFunc_ownH rfl (by decide) (gf := 94) (lb := #[.pointer (some ⟨Bs, 0, none⟩)]) rfl trivial (enters_of Tryz.func94 (by kernel_rfl) rfl)
    (valuesQ_stops _ (by decide) Bs len cap A L hlen hreach W2 w hB2 hc2 hL) Below.trans (belowK_b hB2.size) (Below.refl _ _) (fun _ => rfl)
    (fun pre W => SQ w.heap.size (.func (.func 93) #[] #[.pointer (some ⟨Bi, 0, none⟩)]) (sideN pre a) w W) (fun _ _ _ => False)
    (fun s W W' row hs hg hr => by
      refine hs.keep (L := w.heap.size + 2) ⟨hg.os, hg.tape, hg.output, hg.size, fun k hk => hg.block k (by have := hs.lt; omega) (fun e => by have := (hr k e.symm).1; omega)⟩ (Nat.le_refl _))
    (fun _ _ _ _ _ hs _ _ => hs) hS2
    (fun x a' V => ∃ Bx, V.cell? ⟨Bx, 0, none⟩ = some (.int .i64 x.x) ∧ V.cell? ⟨Bx, 1, none⟩ = some (.int .i64 x.y) ∧ V.cell? ⟨Bx, 2, none⟩ = some (.int .i64 x.d) ∧ a' = { tmps := #[(.func (.func 94) #[] #[.pointer (some ⟨Bs, 0, none⟩)]), (.func (.func 93) #[] #[.pointer (some ⟨Bi, 0, none⟩)]), undef, .pointer (some ⟨w.heap.size, 0, none⟩), .int .i64 0, .pointer (some ⟨w.heap.size + 1, 0, none⟩), .pointer (some ⟨Bx, 0, none⟩), (.func (.func 94) #[] #[.pointer (some ⟨Bs, 0, none⟩)]), .agg #[.int .i64 x.x, .int .i64 x.y, .int .i64 x.d], undef, undef, undef, undef, undef, undef], defers := [] })
    (fun x a' u W W' row hs hg hr => by
      obtain ⟨Bx, h0, h1, h2, h3⟩ := hs
      have q : ∀ {p : Addr} {v : Value}, W.cell? p = some v → W'.cell? p = some v := fun h => cell_kept h hg (fun r e => (hr r e).2)
      exact ⟨Bx, q h0, q h1, q h2, h3⟩) ?assign ?body ?done ?stop
  case assign =>
    rintro l pre x V K hM hK
    gi_wp2
    have hb := (Below.refl V.heap.size V).alloc (Nat.le_refl _) (.cells #[.int .i64 x.x, .int .i64 x.y, .int .i64 x.d] 69)
    exact hK _ _ ((KeepsOthers.alloc _ _).from _) (hb.mono (by have := hM.b.size; omega)) (hM.keep hb hM.lt) ⟨V.heap.size, by simp [go_sem], by simp [go_sem], by simp [go_sem], rfl⟩
  case body =>
    rintro l pre x a' V hl hrec hM ⟨Bx, x0, x1, x2, rfl⟩ hpre
    obtain ⟨c0, c1, f1, hb⟩ := id hM
    have lt1 := hM.lt
    have CT : ∀ V', Below V.heap.size V V' → Calls Tryz.prog 93 #[.agg #[.int .i64 x.x, .int .i64 x.y, .int .i64 x.d], .pointer (some ⟨Bi, 0, none⟩)] V' fun e V2 => e = .returned (.int .i64 (if x.d == a then 1 else 0)) ∧ Below V'.heap.size V' V2 := fun V' hb' => HCT.out V' x (hb.trans (hb'.mono hb.size))
    obtain ⟨tl, htl⟩ : ∃ tl : Int, (if x.d == a then 1 else 0) = tl := ⟨_, rfl⟩
    have hsn : (sideN (pre ++ [x]) a : Int) = (sideN pre a : Int) + tl := by rw [sideN_app, ← htl]; split <;> simp
    have hsl := sideN_le pre a
    have wa : IntKind.i64.wrap ((sideN pre a : Int) + tl) = (sideN (pre ++ [x]) a : Int) := by
      rw [hsn]; refine IntWalk.i64_in _ ?_; rw [← htl]; split <;> omega
    rw [htl] at CT
    have HM := Lib.hid hM
    have CT' := Lib.hid CT
    have HSN := Lib.hid hsn
    have hmx : Tryz.prog.follows .mixedOrders = true := by kernel_rfl
    clear hM CT hlen hL hBs hc2 hS2 hrec htl hsn hsl
    gi_wp2
    gi_region_with_o ((try refine ⟨trivial, ?_⟩); gi_at_call 93; refine (CallsIn.inRound l (callsIn_wide.2 (CT'.out _ (by first | exact Below.refl _ _ | exact (Below.refl _ _).drew | exact below_drewN (Below.refl _ _) _)))).mono ?_; rintro e V2 ⟨rfl, hb2⟩; have hV2 : Below V.heap.size V V2 := (by first | exact hb2 | exact ((Below.refl _ _).drew).trans (hb2.mono (by first | exact Nat.le_refl _ | simp)) | exact (below_drewN (Below.refl _ _) _).trans (hb2.mono (by simp))); have S2 := HM.out.keep hV2 lt1; have c1' := S2.c1; have f1' := S2.f1)
    all_goals gi_wp2
    all_goals (try go_bits)
    all_goals exact ⟨(keepsFromQ_below hV2).trans ((KeepsOthers.setCell _ _ _).from _), (hV2.mono (by omega)).setCell (p := ⟨w.heap.size + 1, 0, none⟩) (by simp) _, S2.put _⟩
  case done =>
    rintro D ys V hD rfl hM hK
    obtain ⟨c0, c1, f1, hb⟩ := id hM
    have HM := Lib.hid hM
    clear hM hlen hL hBs hc2 hS2
    gi_wp2
    refine ⟨by simp, .inl ⟨_, _, rfl, run_takeDeferred hK, ?_⟩⟩
    exact ⟨_, results_tmp rfl _ _ _, rfl, HM.out.b.trans (belowK_b (w := w) (Nat.le_refl _) V D _ _ (by omega) hK rfl rfl)⟩
  case stop =>
    intro D c pre W _ _ h
    exact h.elim
theorem countQ_any (Bs Bc len cap : Nat) (A : Option Addr) (L : List Sq) (a : Int) (w : World) (hlen : L.length = len) (hreach : len ≤ 1000) (hBs : w.cell? ⟨Bs, 0, none⟩ = some (.slice A len cap)) (hL : SqsAt w w.heap.size A L) (hc : w.cell? ⟨Bc, 1, none⟩ = some (.int .i64 a)) :
    Calls Tryz.prog 77 #[(.func (.func 94) #[] #[.pointer (some ⟨Bs, 0, none⟩)]), .func (.func 79) #[] #[.pointer (some ⟨Bc, 0, none⟩)]] w fun e w' => e = .returned (.int .i64 (sideN L a)) ∧ Below w.heap.size w w' := by
  have hmf : ∀ (fn : Fn) (first cap : Array Value) (w : World), (Instr.makeFunc fn first cap).run Tryz.prog w = .ok (.func fn first cap) w := fun _ _ _ _ => rfl
  obtain ⟨W1, hW1⟩ : ∃ W1, W1 = w.alloc (.cells #[.func (.func 79) #[] #[.pointer (some ⟨Bc, 0, none⟩)]] 110) := ⟨_, rfl⟩
  have hb1 : Below w.heap.size w W1 := by rw [hW1]; exact (Below.refl _ _).alloc (Nat.le_refl _) _
  have C := sumQ_any Bs w.heap.size Bc len cap A L a W1 hlen hreach ((hb1.cell (p := ⟨Bs, 0, none⟩) (World.block_lt_of_cell? _ _ hBs)).trans hBs) ((hL.below hb1).mono hb1.size) (by rw [hW1]; simp [go_sem]) ((hb1.cell (p := ⟨Bc, 1, none⟩) (World.block_lt_of_cell? _ _ hc)).trans hc)
  have HC := Lib.hid C
  clear C hL hc hBs
  go_enter Tryz.func77, Tryz.ntmps77
  go_wp2_with fail
  rw [← hW1]
  clear hW1
  (with_reducible refine HC.out.mono ?_)
  rintro e w2 ⟨rfl, hb⟩
  go_wp2_with fail
  go_ret
  exact ⟨rfl, hb1.trans (hb.mono hb1.size)⟩
end Go.Proofs.YtchabjmdjpfkfaaGreat
namespace Go.Proofs.YtchabjmdjpfkfaaGreat
open Go.RowKit Go.Shelf

/-- The boxes of the clue, the cut and the result. -/
structure CB (N : Nat) (w V : World) (k a b W H : Int) (A : Option Addr) (n c : Nat) : Prop where
  below : Below N w V
  sz : N + 3 ≤ V.heap.size
  k0 : V.cell? ⟨N, 0, none⟩ = some (.int .i64 k)
  k1 : V.cell? ⟨N, 1, none⟩ = some (.int .i64 a)
  k2 : V.cell? ⟨N, 2, none⟩ = some (.int .i64 b)
  c0 : V.cell? ⟨N + 1, 0, none⟩ = some (.int .i64 W)
  c1 : V.cell? ⟨N + 1, 1, none⟩ = some (.int .i64 H)
  c2 : V.cell? ⟨N + 1, 2, none⟩ = some (.slice A n c)
  z0 : V.cell? ⟨N + 2, 0, none⟩ = some (.int .i64 0)
  z1 : V.cell? ⟨N + 2, 1, none⟩ = some (.int .i64 0)
  z2 : V.cell? ⟨N + 2, 2, none⟩ = some (.int .i64 0)
  f0 : ∀ o, V.frozen? ⟨N, o, none⟩ = false
  f2 : ∀ o, V.frozen? ⟨N + 2, o, none⟩ = false
theorem CB.next {N : Nat} {w V V' : World} {k a b W H : Int} {A : Option Addr} {n c : Nat} (h : CB N w V k a b W H A n c) (hb : Below V.heap.size V V') : CB N w V' k a b W H A n c := by
  have hs := h.sz
  have q : ∀ i o v, i < 3 → V.cell? ⟨N + i, o, none⟩ = some v → V'.cell? ⟨N + i, o, none⟩ = some v := fun i o v hi h => (hb.cell (p := ⟨N + i, o, none⟩) (by show N + i < _; omega)).trans h
  have r : ∀ i, i < 3 → (∀ o, V.frozen? ⟨N + i, o, none⟩ = false) → ∀ o, V'.frozen? ⟨N + i, o, none⟩ = false := fun i hi h o => (hb.frozen (p := ⟨N + i, o, none⟩) (by show N + i < _; omega)).trans (h o)
  exact ⟨h.below.trans (hb.mono (by omega)), Nat.le_trans hs hb.size, q 0 0 _ (by decide) h.k0, q 0 1 _ (by decide) h.k1, q 0 2 _ (by decide) h.k2, q 1 0 _ (by decide) h.c0, q 1 1 _ (by decide) h.c1, q 1 2 _ (by decide) h.c2, q 2 0 _ (by decide) h.z0, q 2 1 _ (by decide) h.z1, q 2 2 _ (by decide) h.z2, r 0 (by decide) h.f0, r 2 (by decide) h.f2⟩
theorem CB.start (w : World) (k a b W H : Int) (A : Option Addr) (n c : Nat) (t t' t'' : TypeId) :
    CB w.heap.size w (((w.alloc (.cells #[.int .i64 k, .int .i64 a, .int .i64 b] t)).alloc (.cells #[.int .i64 W, .int .i64 H, .slice A n c] t')).alloc (.cells #[.int .i64 0, .int .i64 0, .int .i64 0] t'')) k a b W H A n c := by
  constructor
  · exact (((Below.refl _ _).alloc (Nat.le_refl _) _).alloc (by simp) _).alloc (by simp; omega) _
  · simp
  all_goals (first | (simp [go_sem]; done) | (intro o; simp [go_sem, World.frozen?, World.alloc]))
theorem edges_at (W H : Int) (A : Option Addr) (n c : Nat) (L : List Sq) (i : Nat) (hi : i < 4) (w : World) (hl : L.length = n) (hc : n ≤ c) (hL : SqsAt w w.heap.size A L) (hwf : ∀ s ∈ L, wfS s) (hG : Good W H L) :
    Calls Tryz.prog 80 #[.agg #[.int .i64 W, .int .i64 H, .slice A n c]] w fun e w' => ∃ g c4, e = .returned (.tuple #[.slice (some ⟨g, 0, none⟩) 4 c4, .bool true]) ∧ w'.cell? ⟨g, i, none⟩ = some (.int .i64 (edgeN W H L i)) ∧ Below w.heap.size w w' := by
  refine (implEdges_any W H A n c L w hl hc hL hwf).mono ?_
  rintro e w' ⟨A4, c4, rfl, o4, hb4⟩
  rw [ifGood_yes hG, dc_true hG] at *
  have h4 : (edgesU W H L L.length).length = 4 := rfl
  have hg : (edgesU W H L L.length)[i]? = some (edgeN W H L i) := by
    unfold edgeN
    rw [Int.toNat_natCast, List.getElem?_eq_getElem (by rw [h4]; exact hi)]; rfl
  obtain ⟨g, rfl⟩ := own_form o4 (by rw [h4]; decide)
  obtain ⟨b, off, e, hb, hc⟩ := ints_of_own o4 i _ hg
  cases e
  rw [Nat.zero_add] at hc
  exact ⟨_, _, rfl, hc, hb4⟩
theorem cross_len (W H : Int) (A : Option Addr) (n c : Nat) (L : List Sq) (w : World) (hl : L.length = n) (hc : n ≤ c) (hL : SqsAt w w.heap.size A L) (hwf : ∀ s ∈ L, wfS s) (hG : Good W H L) :
    Calls Tryz.prog 81 #[.agg #[.int .i64 W, .int .i64 H, .slice A n c]] w fun e w' => ∃ A4 c4, e = .returned (.tuple #[.slice A4 (crossL L L.length).length c4, .bool true]) ∧ Below w.heap.size w w' := by
  refine (implCross_any W H A n c L w hl hc hL hwf).mono ?_
  intro e w' h
  rw [ifGood_yes hG, dc_true hG] at h
  obtain ⟨A4, c4, R, he, _, _, hb⟩ := h
  exact ⟨A4, c4, he, hb⟩
theorem long_det (W H : Int) (A : Option Addr) (n c : Nat) (L : List Sq) (w : World) (hl : L.length = n) (hc : n ≤ c) (hL : SqsAt w w.heap.size A L) (hwf : ∀ s ∈ L, wfS s) (hG : Good W H L) :
    Calls Tryz.prog 82 #[.agg #[.int .i64 W, .int .i64 H, .slice A n c]] w fun e w' => e = .returned (.tuple #[.int .i64 (lineN W H L), .bool true]) ∧ Below w.heap.size w w' := by
  refine (implLong_any W H A n c L w hl hc hL hwf).mono ?_
  rintro e w' ⟨m, ok, rfl, hs, hb⟩
  have h1 := lineN_eq hs hG
  have h2 : ok = true := by
    rcases hs with ⟨_, h, _⟩ | ⟨h, _⟩
    · exact h
    · exact absurd hG h
  rw [h1, h2]
  exact ⟨rfl, hb⟩
set_option maxRecDepth 100000 in
theorem hasIt_0 (W H : Int) (A : Option Addr) (n c : Nat) (L : List Sq) (a b : Int) (w : World) (hl : L.length = n) (hc : n ≤ c) (hL : SqsAt w w.heap.size A L) (hwf : ∀ s ∈ L, wfS s) (hG : Good W H L) :
    Calls Tryz.prog 64 #[.agg #[.int .i64 0, .int .i64 a, .int .i64 b], .agg #[.int .i64 W, .int .i64 H, .slice A n c]] w fun e w' => e = .returned (.agg #[.int .i64 0, .int .i64 L.length, .int .i64 b]) ∧ Below w.heap.size w w' := by
  subst hl
  go_enter Tryz.func64, Tryz.ntmps64
  go_wp2_with fail
  refine bodyPost_ret (v := .agg #[.int .i64 0, .int .i64 L.length, .int .i64 b]) (by simp [results, Tryz.results64, go_sem]) rfl ⟨rfl, ?_⟩
  repeat (first | exact Below.refl _ _ | refine Below.drew ?_ | refine Below.setCell ?_ (by first | exact Nat.le_refl _ | (simp; done) | (simp; omega)) _ | refine Below.alloc ?_ (by first | exact Nat.le_refl _ | (simp; done) | (simp; omega)) _)
set_option maxRecDepth 100000 in
set_option maxHeartbeats 4000000 in
theorem hasIt_1 (W H : Int) (A : Option Addr) (n c : Nat) (L : List Sq) (a b : Int) (w : World) (hl : L.length = n) (hc : n ≤ c) (hL : SqsAt w w.heap.size A L) (hwf : ∀ s ∈ L, wfS s) (hG : Good W H L) :
    Calls Tryz.prog 64 #[.agg #[.int .i64 1, .int .i64 a, .int .i64 b], .agg #[.int .i64 W, .int .i64 H, .slice A n c]] w fun e w' => e = .returned (.agg #[.int .i64 1, .int .i64 (a), .int .i64 ((sideN L a : Nat))]) ∧ Below w.heap.size w w' := by
  subst hl
  have K := CB.start w 1 a b W H A L.length c 60 48 60
  have hmf : ∀ (fn : Fn) (first cap : Array Value) (w : World), (Instr.makeFunc fn first cap).run Tryz.prog w = .ok (.func fn first cap) w := fun _ _ _ _ => rfl
  go_enter Tryz.func64, Tryz.ntmps64
  go_wp2_with fail
  obtain ⟨W3, hW3⟩ : ∃ W3, W3 = ((w.alloc (.cells #[.int .i64 1, .int .i64 a, .int .i64 b] 60)).alloc (.cells #[.int .i64 W, .int .i64 H, .slice A L.length c] 48)).alloc (.cells #[.int .i64 0, .int .i64 0, .int .i64 0] 60) := ⟨_, rfl⟩
  rw [← hW3] at K ⊢
  clear hW3
  have hs3 := K.sz
  refine (valuesQ_any A L.length c _).mono ?_
  rintro e w4 ⟨rfl, hw4⟩
  have hb4 : Below W3.heap.size W3 w4 := by rw [hw4]; exact (Below.refl _ _).alloc (Nat.le_refl _) _
  have hBs : w4.cell? ⟨W3.heap.size, 0, none⟩ = some (.slice A L.length c) := by rw [hw4]; simp [go_sem]
  clear hw4
  replace K := K.next hb4
  have hs4 := K.sz
  obtain ⟨_, _, k0, k1, k2, c0, c1, c2, z0, z1, z2, f0, f2⟩ := id K
  have f00 := f0 0
  have f01 := f0 1
  have f02 := f0 2
  have f20 := f2 0
  have f21 := f2 1
  have f22 := f2 2
  clear f0 f2
  go_wp2_with fail
  clear k0 k1 k2 c0 c1 c2 z0 z1 z2 f00 f01 f02 f20 f21 f22
  refine (countQ_any W3.heap.size w.heap.size L.length c A L a w4 rfl (by have := hG.2.2.1.2; omega) hBs ((hL.below K.below).mono K.below.size) K.k1).mono ?_
  rintro e w5 ⟨rfl, hb5⟩
  replace K := K.next hb5
  have hs5 := K.sz
  obtain ⟨_, _, k0, k1, k2, c0, c1, c2, z0, z1, z2, f0, f2⟩ := id K
  have f00 := f0 0
  have f01 := f0 1
  have f02 := f0 2
  have f20 := f2 0
  have f21 := f2 1
  have f22 := f2 2
  clear f0 f2
  go_wp2_with fail
  have hB := K.below
  refine bodyPost_ret (v := .agg #[.int .i64 1, .int .i64 (a), .int .i64 ((sideN L a : Nat))]) (by simp [results, Tryz.results64, go_sem, k0, k1, k2, z0, z1, z2]) rfl ⟨rfl, ?_⟩
  repeat (first | exact hB | refine Below.drew ?_ | refine Below.setCell ?_ (by first | exact Nat.le_refl _ | (simp; done) | (simp; omega)) _)
set_option maxRecDepth 100000 in
set_option maxHeartbeats 4000000 in
theorem hasIt_2 (W H : Int) (A : Option Addr) (n c : Nat) (L : List Sq) (a b : Int) (w : World) (hl : L.length = n) (hc : n ≤ c) (hL : SqsAt w w.heap.size A L) (hwf : ∀ s ∈ L, wfS s) (hG : Good W H L) :
    Calls Tryz.prog 64 #[.agg #[.int .i64 2, .int .i64 a, .int .i64 b], .agg #[.int .i64 W, .int .i64 H, .slice A n c]] w fun e w' => e = .returned (.agg #[.int .i64 2, .int .i64 (a), .int .i64 (cellN W H L a)]) ∧ Below w.heap.size w w' := by
  subst hl
  have K := CB.start w 2 a b W H A L.length c 60 48 60
  have hmf : ∀ (fn : Fn) (first cap : Array Value) (w : World), (Instr.makeFunc fn first cap).run Tryz.prog w = .ok (.func fn first cap) w := fun _ _ _ _ => rfl
  go_enter Tryz.func64, Tryz.ntmps64
  go_wp2_with fail
  obtain ⟨W3, hW3⟩ : ∃ W3, W3 = ((w.alloc (.cells #[.int .i64 2, .int .i64 a, .int .i64 b] 60)).alloc (.cells #[.int .i64 W, .int .i64 H, .slice A L.length c] 48)).alloc (.cells #[.int .i64 0, .int .i64 0, .int .i64 0] 60) := ⟨_, rfl⟩
  rw [← hW3] at K ⊢
  clear hW3
  have hs3 := K.sz
  refine (sideAt_any W H A L.length c L a W3 rfl hc ((hL.below K.below).mono K.below.size) hwf hG).mono ?_
  rintro e w4 ⟨rfl, hb4⟩
  replace K := K.next hb4
  have hs4 := K.sz
  obtain ⟨_, _, k0, k1, k2, c0, c1, c2, z0, z1, z2, f0, f2⟩ := id K
  have f00 := f0 0
  have f01 := f0 1
  have f02 := f0 2
  have f20 := f2 0
  have f21 := f2 1
  have f22 := f2 2
  clear f0 f2
  go_wp2_with fail
  have hB := K.below
  refine bodyPost_ret (v := .agg #[.int .i64 2, .int .i64 (a), .int .i64 (cellN W H L a)]) (by simp [results, Tryz.results64, go_sem, k0, k1, k2, z0, z1, z2]) rfl ⟨rfl, ?_⟩
  repeat (first | exact hB | refine Below.drew ?_ | refine Below.setCell ?_ (by first | exact Nat.le_refl _ | (simp; done) | (simp; omega)) _)
set_option maxRecDepth 100000 in
set_option maxHeartbeats 4000000 in
theorem hasIt_3 (W H : Int) (A : Option Addr) (n c : Nat) (L : List Sq) (i : Nat) (b : Int) (w : World) (hl : L.length = n) (hc : n ≤ c) (hL : SqsAt w w.heap.size A L) (hwf : ∀ s ∈ L, wfS s) (hG : Good W H L) (hi : i < 4) :
    Calls Tryz.prog 64 #[.agg #[.int .i64 3, .int .i64 (i : Int), .int .i64 b], .agg #[.int .i64 W, .int .i64 H, .slice A n c]] w fun e w' => e = .returned (.agg #[.int .i64 3, .int .i64 ((i : Int)), .int .i64 (edgeN W H L i)]) ∧ Below w.heap.size w w' := by
  subst hl
  have K := CB.start w 3 i b W H A L.length c 60 48 60
  have hmf : ∀ (fn : Fn) (first cap : Array Value) (w : World), (Instr.makeFunc fn first cap).run Tryz.prog w = .ok (.func fn first cap) w := fun _ _ _ _ => rfl
  go_enter Tryz.func64, Tryz.ntmps64
  go_wp2_with fail
  obtain ⟨W3, hW3⟩ : ∃ W3, W3 = ((w.alloc (.cells #[.int .i64 3, .int .i64 (i : Int), .int .i64 b] 60)).alloc (.cells #[.int .i64 W, .int .i64 H, .slice A L.length c] 48)).alloc (.cells #[.int .i64 0, .int .i64 0, .int .i64 0] 60) := ⟨_, rfl⟩
  rw [← hW3] at K ⊢
  clear hW3
  have hs3 := K.sz
  refine (edges_at W H A L.length c L i hi W3 rfl hc ((hL.below K.below).mono K.below.size) hwf hG).mono ?_
  rintro e w4 ⟨g4, c4, rfl, e4, hb4⟩
  have i0 : (0 : Int) ≤ (i : Int) := by omega
  have i1 : (i : Int) < (4 : Int) := by omega
  replace K := K.next hb4
  have hs4 := K.sz
  obtain ⟨_, _, k0, k1, k2, c0, c1, c2, z0, z1, z2, f0, f2⟩ := id K
  have f00 := f0 0
  have f01 := f0 1
  have f02 := f0 2
  have f20 := f2 0
  have f21 := f2 1
  have f22 := f2 2
  clear f0 f2
  go_wp2_with fail
  have hB := K.below
  refine bodyPost_ret (v := .agg #[.int .i64 3, .int .i64 ((i : Int)), .int .i64 (edgeN W H L i)]) (by simp [results, Tryz.results64, go_sem, k0, k1, k2, z0, z1, z2]) rfl ⟨rfl, ?_⟩
  repeat (first | exact hB | refine Below.drew ?_ | refine Below.setCell ?_ (by first | exact Nat.le_refl _ | (simp; done) | (simp; omega)) _)
set_option maxRecDepth 100000 in
set_option maxHeartbeats 4000000 in
theorem hasIt_4 (W H : Int) (A : Option Addr) (n c : Nat) (L : List Sq) (a b : Int) (w : World) (hl : L.length = n) (hc : n ≤ c) (hL : SqsAt w w.heap.size A L) (hwf : ∀ s ∈ L, wfS s) (hG : Good W H L) :
    Calls Tryz.prog 64 #[.agg #[.int .i64 4, .int .i64 a, .int .i64 b], .agg #[.int .i64 W, .int .i64 H, .slice A n c]] w fun e w' => e = .returned (.agg #[.int .i64 4, .int .i64 (((crossL L L.length).length : Nat)), .int .i64 (b)]) ∧ Below w.heap.size w w' := by
  subst hl
  have K := CB.start w 4 a b W H A L.length c 60 48 60
  have hmf : ∀ (fn : Fn) (first cap : Array Value) (w : World), (Instr.makeFunc fn first cap).run Tryz.prog w = .ok (.func fn first cap) w := fun _ _ _ _ => rfl
  go_enter Tryz.func64, Tryz.ntmps64
  go_wp2_with fail
  obtain ⟨W3, hW3⟩ : ∃ W3, W3 = ((w.alloc (.cells #[.int .i64 4, .int .i64 a, .int .i64 b] 60)).alloc (.cells #[.int .i64 W, .int .i64 H, .slice A L.length c] 48)).alloc (.cells #[.int .i64 0, .int .i64 0, .int .i64 0] 60) := ⟨_, rfl⟩
  rw [← hW3] at K ⊢
  clear hW3
  have hs3 := K.sz
  refine (cross_len W H A L.length c L W3 rfl hc ((hL.below K.below).mono K.below.size) hwf hG).mono ?_
  rintro e w4 ⟨A4, c4, rfl, hb4⟩
  have hcl := crossL_len L L.length
  have h30 := hG.2.2.1.2
  replace K := K.next hb4
  have hs4 := K.sz
  obtain ⟨_, _, k0, k1, k2, c0, c1, c2, z0, z1, z2, f0, f2⟩ := id K
  have f00 := f0 0
  have f01 := f0 1
  have f02 := f0 2
  have f20 := f2 0
  have f21 := f2 1
  have f22 := f2 2
  clear f0 f2
  go_wp2_with fail
  have hB := K.below
  refine bodyPost_ret (v := .agg #[.int .i64 4, .int .i64 (((crossL L L.length).length : Nat)), .int .i64 (b)]) (by simp [results, Tryz.results64, go_sem, k0, k1, k2, z0, z1, z2]) rfl ⟨rfl, ?_⟩
  repeat (first | exact hB | refine Below.drew ?_ | refine Below.setCell ?_ (by first | exact Nat.le_refl _ | (simp; done) | (simp; omega)) _)
set_option maxRecDepth 100000 in
set_option maxHeartbeats 4000000 in
theorem hasIt_5 (W H : Int) (A : Option Addr) (n c : Nat) (L : List Sq) (a b : Int) (w : World) (hl : L.length = n) (hc : n ≤ c) (hL : SqsAt w w.heap.size A L) (hwf : ∀ s ∈ L, wfS s) (hG : Good W H L) :
    Calls Tryz.prog 64 #[.agg #[.int .i64 5, .int .i64 a, .int .i64 b], .agg #[.int .i64 W, .int .i64 H, .slice A n c]] w fun e w' => e = .returned (.agg #[.int .i64 5, .int .i64 (lineN W H L), .int .i64 (b)]) ∧ Below w.heap.size w w' := by
  subst hl
  have K := CB.start w 5 a b W H A L.length c 60 48 60
  have hmf : ∀ (fn : Fn) (first cap : Array Value) (w : World), (Instr.makeFunc fn first cap).run Tryz.prog w = .ok (.func fn first cap) w := fun _ _ _ _ => rfl
  go_enter Tryz.func64, Tryz.ntmps64
  go_wp2_with fail
  obtain ⟨W3, hW3⟩ : ∃ W3, W3 = ((w.alloc (.cells #[.int .i64 5, .int .i64 a, .int .i64 b] 60)).alloc (.cells #[.int .i64 W, .int .i64 H, .slice A L.length c] 48)).alloc (.cells #[.int .i64 0, .int .i64 0, .int .i64 0] 60) := ⟨_, rfl⟩
  rw [← hW3] at K ⊢
  clear hW3
  have hs3 := K.sz
  refine (long_det W H A L.length c L W3 rfl hc ((hL.below K.below).mono K.below.size) hwf hG).mono ?_
  rintro e w4 ⟨rfl, hb4⟩
  replace K := K.next hb4
  have hs4 := K.sz
  obtain ⟨_, _, k0, k1, k2, c0, c1, c2, z0, z1, z2, f0, f2⟩ := id K
  have f00 := f0 0
  have f01 := f0 1
  have f02 := f0 2
  have f20 := f2 0
  have f21 := f2 1
  have f22 := f2 2
  clear f0 f2
  go_wp2_with fail
  have hB := K.below
  refine bodyPost_ret (v := .agg #[.int .i64 5, .int .i64 (lineN W H L), .int .i64 (b)]) (by simp [results, Tryz.results64, go_sem, k0, k1, k2, z0, z1, z2]) rfl ⟨rfl, ?_⟩
  repeat (first | exact hB | refine Below.drew ?_ | refine Below.setCell ?_ (by first | exact Nat.le_refl _ | (simp; done) | (simp; omega)) _)
/-- What may be asked of a cut: six kinds, four edges. -/
def AskOk (c : Sq) : Prop := (0 ≤ c.x ∧ c.x ≤ 5) ∧ (c.x = 3 → 0 ≤ c.y ∧ c.y ≤ 3)
theorem ClueOk.ask {N : Int} {c : Sq} (h : ClueOk N c) : AskOk c := by
  unfold ClueOk at h; unfold AskOk; omega
theorem asCut_any (s : Sq) (W H : Int) (A : Option Addr) (n c : Nat) (L : List Sq) (w : World) (hl : L.length = n) (hc : n ≤ c) (hL : SqsAt w w.heap.size A L) (hwf : ∀ s ∈ L, wfS s) (hG : Good W H L) (hs : AskOk s) :
    Calls Tryz.prog 64 #[.agg #[.int .i64 s.x, .int .i64 s.y, .int .i64 s.d], .agg #[.int .i64 W, .int .i64 H, .slice A n c]] w fun e w' => e = .returned (.agg #[.int .i64 (hasIt W H L s).x, .int .i64 (hasIt W H L s).y, .int .i64 (hasIt W H L s).d]) ∧ Below w.heap.size w w' := by
  obtain ⟨k, a, b⟩ := s
  obtain ⟨h0, h3⟩ := hs
  dsimp only at h0 h3 ⊢
  rcases (by omega : k = 0 ∨ k = 1 ∨ k = 2 ∨ k = 3 ∨ k = 4 ∨ k = 5) with rfl | rfl | rfl | rfl | rfl | rfl
  · exact hasIt_0 W H A n c L a b w hl hc hL hwf hG
  · exact hasIt_1 W H A n c L a b w hl hc hL hwf hG
  · exact hasIt_2 W H A n c L a b w hl hc hL hwf hG
  · obtain ⟨i, rfl⟩ : ∃ i : Nat, a = i := ⟨a.toNat, by have := h3 rfl; omega⟩
    exact hasIt_3 W H A n c L i b w hl hc hL hwf hG (by have := h3 rfl; omega)
  · exact hasIt_4 W H A n c L a b w hl hc hL hwf hG
  · exact hasIt_5 W H A n c L a b w hl hc hL hwf hG
end Go.Proofs.YtchabjmdjpfkfaaGreat
namespace Go.Proofs.YtchabjmdjpfkfaaGreat
open Go.RowKit Go.Shelf

theorem eqClueV (a b c a' b' c' : Int) (w : World) : (Op.equalIn 10000 60 (.agg #[.int .i64 a, .int .i64 b, .int .i64 c]) (.agg #[.int .i64 a', .int .i64 b', .int .i64 c'])).run Tryz.prog w = .ok (a == a' && b == b' && c == c') w := by
  have u3 := Tryz.underlying3
  have a3 : ∀ w, (isAgg 3).run Tryz.prog w = .ok false w := fun _ => by kernel_rfl
  have z3 : ∀ w, (Go.sizeOf 3).run Tryz.prog w = .ok 1 w := fun _ => by kernel_rfl
  have hS : Tryz.prog.underlying 60 = some (.struct (Tryz.prog.fieldsOf 60)) := by kernel_rfl
  have hp : Tryz.prog.stoodInHeld 60 = false := by kernel_rfl
  rw [show (10000 : Nat) = 9999 + 1 from rfl, run_equalIn_agg w 9999 60 _ _ hS hp]
  simp only [Program.fieldsOf, Tryz.underlying60]
  go_simp
  by_cases h1 : a = a' <;> by_cases h2 : b = b' <;> by_cases h3 : c = c' <;> simp [h1, h2, h3]

/-- A hidden cut and a clue of it. -/
def DoF (W H : Int) (L : List Sq) (s : Sq) : Prop := (Good W H L ∧ okP W H = true) ∧ ClueOk (W * H) s
noncomputable def fitV (W H : Int) (L : List Sq) (s : Sq) : Bool := dc (DoF W H L s) && fitN W H L s
def RetFit (w : World) (W H : Int) (L : List Sq) (s : Sq) (e : Ending) (w' : World) : Prop := e = .returned (.tuple #[.bool (fitV W H L s), .bool (dc (DoF W H L s))]) ∧ Below w.heap.size w w'
theorem RetFit.no {w w' : World} {W H : Int} {L : List Sq} {s : Sq} (h : ¬ DoF W H L s) (hb : Below w.heap.size w w') : RetFit w W H L s (.returned (.tuple #[.bool false, .bool false])) w' := by
  unfold RetFit fitV; rw [dc_false h]; exact ⟨rfl, hb⟩
theorem RetFit.yes {w w' : World} {W H : Int} {L : List Sq} {s : Sq} {b : Bool} (h : DoF W H L s) (hb : Below w.heap.size w w') (hf : b = fitN W H L s) : RetFit w W H L s (.returned (.tuple #[.bool b, .bool true])) w' := by
  unfold RetFit fitV; rw [dc_true h, hf]; exact ⟨rfl, hb⟩
end Go.Proofs.YtchabjmdjpfkfaaGreat
namespace Go.Proofs.YtchabjmdjpfkfaaGreat
open Go.RowKit

set_option maxRecDepth 100000 in
set_option maxHeartbeats 8000000 in
theorem pv_0 (W H : Int) (A : Option Addr) (n c : Nat) (L : List Sq) (a : Int) (w : World) (hl : L.length = n) (hc : n ≤ c) (hL : SqsAt w w.heap.size A L) (hG : Good W H L) :
    Calls Tryz.prog 21 #[.int .i64 0, .int .i64 a, .agg #[.int .i64 W, .int .i64 H, .slice A n c]] w fun e w' => e = .returned (.int .i64 ((L.length : Nat))) ∧ Below w.heap.size w w' := by
  subst hl
  go_enter Tryz.func21, Tryz.ntmps21
  go_wp2_with fail
  go_ret
  exact ⟨rfl, (Below.refl _ _).alloc (Nat.le_refl _) _⟩
set_option maxRecDepth 100000 in
set_option maxHeartbeats 8000000 in
theorem pv_2 (W H : Int) (A : Option Addr) (n c : Nat) (L : List Sq) (a : Int) (w : World) (hl : L.length = n) (hc : n ≤ c) (hL : SqsAt w w.heap.size A L) (hG : Good W H L) :
    Calls Tryz.prog 21 #[.int .i64 2, .int .i64 a, .agg #[.int .i64 W, .int .i64 H, .slice A n c]] w fun e w' => e = .returned (.int .i64 (cellN W H L a)) ∧ Below w.heap.size w w' := by
  subst hl
  have B0 : Below w.heap.size w (w.alloc (.cells #[.int .i64 W, .int .i64 H, .slice A L.length c] 48)) := (Below.refl _ _).alloc (Nat.le_refl _) _
  have K0 := Cv3.start w (.int .i64 W) (.int .i64 H) (.slice A L.length c) 48
  have hW0 : W ≠ 0 := by have := hG.1; omega
  go_enter Tryz.func21, Tryz.ntmps21
  go_wp2_with fail
  obtain ⟨W0, hW⟩ : ∃ W0, W0 = w.alloc (.cells #[.int .i64 W, .int .i64 H, .slice A L.length c] 48) := ⟨_, rfl⟩
  rw [← hW] at B0 K0 ⊢
  clear hW
  have C := fun x y (u : Later W0.heap.size W0) => at_det (specAt_any W H A L.length c L x y u.val rfl hc ((hL.below (B0.trans (u.ok.mono B0.size))).mono (Nat.le_trans B0.size u.ok.size)))
  have F0 : ∀ u : Later W0.heap.size W0, u.val.cell? ⟨w.heap.size, 0, none⟩ = some (.int .i64 W) := fun u => (u.ok.cell (p := ⟨_, _, none⟩) K0.lt).trans K0.c0
  have F1 : ∀ u : Later W0.heap.size W0, u.val.cell? ⟨w.heap.size, 1, none⟩ = some (.int .i64 H) := fun u => (u.ok.cell (p := ⟨_, _, none⟩) K0.lt).trans K0.c1
  have F2 : ∀ u : Later W0.heap.size W0, u.val.cell? ⟨w.heap.size, 2, none⟩ = some (.slice A L.length c) := fun u => (u.ok.cell (p := ⟨_, _, none⟩) K0.lt).trans K0.c2
  obtain ⟨k, s, hk, hs⟩ := atN_lt W H L (a.tmod W) (wrap64 (a.tdiv W)) hG
  obtain ⟨b, off, rfl, hb, c0, c1, c2⟩ := hL k s hs
  have hcell := cellN_eq hk hs
  have hkl := (List.getElem?_eq_some_iff.1 hs).1
  have HS := Lib.hid hs
  have d2 : ∀ w', Below W0.heap.size W0 w' → w'.cell? ⟨b, off + k * 3 + 2, none⟩ = some (.int .i64 s.d) := fun w' h => ((B0.trans (h.mono B0.size)).cell (p := ⟨b, _, none⟩) hb).trans c2
  clear hL c0 c1 c2 hs
  refine wp_region_sub W0.heap.size (by kernel_rfl) (by kernel_rfl) ?_
  repeat (first | go_big_quiet_step ((go_at_call 37; exact sub_of _ (Nat.le_refl _) (C _ _ _))) | quiet_step ((go_at_call 37; exact sub_of _ (Nat.le_refl _) (C _ _ _))))
  refine wpQuiet_nil ?_
  rintro w2 ⟨uu, hu⟩
  have hb2 : Below W0.heap.size W0 w2 := by rw [hu]; exact uu.ok
  clear hu uu
  have m2 := F2 ⟨w2, hb2⟩
  have e2 := d2 w2 hb2
  have i0 : (0 : Int) ≤ (k : Int) := by omega
  have i1 : (k : Int) < (L.length : Int) := by omega
  clear F0 F1 F2 d2 C
  dsimp only at m2
  rw [hk]
  go_wp2_with fail
  go_ret
  exact ⟨by rw [hcell]; rfl, B0.trans (hb2.mono B0.size)⟩
theorem specEdges_at (W H : Int) (A : Option Addr) (n c : Nat) (L : List Sq) (i : Nat) (hi : i < 4) (w : World) (hl : L.length = n) (hc : n ≤ c) (hL : SqsAt w w.heap.size A L) (hG : Good W H L) :
    Calls Tryz.prog 38 #[.agg #[.int .i64 W, .int .i64 H, .slice A n c]] w fun e w' => ∃ g c4, e = .returned (.tuple #[.slice (some ⟨g, 0, none⟩) 4 c4, .bool true]) ∧ w'.cell? ⟨g, i, none⟩ = some (.int .i64 (edgeN W H L i)) ∧ Below w.heap.size w w' := by
  refine (specEdges_any W H A n c L w hl hc hL).mono ?_
  rintro e w' ⟨A4, c4, rfl, o4, hb4⟩
  rw [ifGood_yes hG, dc_true hG] at *
  have h4 : (edgesU W H L L.length).length = 4 := rfl
  have hg : (edgesU W H L L.length)[i]? = some (edgeN W H L i) := by
    unfold edgeN
    rw [Int.toNat_natCast, List.getElem?_eq_getElem (by rw [h4]; exact hi)]; rfl
  obtain ⟨g, rfl⟩ := own_form o4 (by rw [h4]; decide)
  obtain ⟨b, off, e, hb, hc⟩ := ints_of_own o4 i _ hg
  cases e
  rw [Nat.zero_add] at hc
  exact ⟨_, _, rfl, hc, hb4⟩
set_option maxRecDepth 100000 in
set_option maxHeartbeats 8000000 in
theorem pv_3 (W H : Int) (A : Option Addr) (n c : Nat) (L : List Sq) (i : Nat) (w : World) (hl : L.length = n) (hc : n ≤ c) (hL : SqsAt w w.heap.size A L) (hG : Good W H L) (hi : i < 4) :
    Calls Tryz.prog 21 #[.int .i64 3, .int .i64 (i : Int), .agg #[.int .i64 W, .int .i64 H, .slice A n c]] w fun e w' => e = .returned (.int .i64 (edgeN W H L i)) ∧ Below w.heap.size w w' := by
  subst hl
  have B0 : Below w.heap.size w (w.alloc (.cells #[.int .i64 W, .int .i64 H, .slice A L.length c] 48)) := (Below.refl _ _).alloc (Nat.le_refl _) _
  have K0 := Cv3.start w (.int .i64 W) (.int .i64 H) (.slice A L.length c) 48
  obtain ⟨kl, k0, k1, k2⟩ := id K0
  go_enter Tryz.func21, Tryz.ntmps21
  go_wp2_with fail
  clear kl k0 k1 k2
  obtain ⟨W0, hW⟩ : ∃ W0, W0 = w.alloc (.cells #[.int .i64 W, .int .i64 H, .slice A L.length c] 48) := ⟨_, rfl⟩
  rw [← hW] at B0 K0 ⊢
  clear hW
  refine (specEdges_at W H A L.length c L i hi W0 rfl hc ((hL.below B0).mono B0.size) hG).mono ?_
  rintro e w2 ⟨g4, c4, rfl, e4, hb2⟩
  have i0 : (0 : Int) ≤ (i : Int) := by omega
  have i1 : (i : Int) < (4 : Int) := by omega
  go_wp2_with fail
  go_ret
  exact ⟨rfl, B0.trans (hb2.mono B0.size)⟩
set_option maxRecDepth 100000 in
set_option maxHeartbeats 8000000 in
theorem pv_5 (W H : Int) (A : Option Addr) (n c : Nat) (L : List Sq) (a : Int) (w : World) (hl : L.length = n) (hc : n ≤ c) (hL : SqsAt w w.heap.size A L) (hG : Good W H L) :
    Calls Tryz.prog 21 #[.int .i64 5, .int .i64 a, .agg #[.int .i64 W, .int .i64 H, .slice A n c]] w fun e w' => e = .returned (.int .i64 (lineN W H L)) ∧ Below w.heap.size w w' := by
  subst hl
  have B0 : Below w.heap.size w (w.alloc (.cells #[.int .i64 W, .int .i64 H, .slice A L.length c] 48)) := (Below.refl _ _).alloc (Nat.le_refl _) _
  have K0 := Cv3.start w (.int .i64 W) (.int .i64 H) (.slice A L.length c) 48
  have h30 : L.length ≤ 30 := hG.2.2.1.2
  have hB1 := B0
  obtain ⟨WW, HH, rfl, rfl, hC⟩ := cut_of_good hG
  have hG' := good_turn hG
  have HG := Lib.hid hG
  have HG' := Lib.hid hG'
  have HC := Lib.hid hC
  have hLT := (hL.below B0).mono B0.size
  obtain ⟨kl, b0, b1, b2⟩ := id K0
  clear hL hG hG' hC
  go_enter Tryz.func21, Tryz.ntmps21
  go_wp2_with fail
  obtain ⟨w1, hW⟩ : ∃ w1, w1 = w.alloc (.cells #[.int .i64 (WW : Nat), .int .i64 (HH : Nat), .slice A L.length c] 48) := ⟨_, rfl⟩
  rw [← hW] at B0 K0 hB1 hLT kl b0 b1 b2 ⊢
  clear hW
  have HLT := Lib.hid hLT
  clear hLT
  have C1 : ∀ w' : World, (Below w1.heap.size w1 w' ∧ w1.heap.size ≤ w'.heap.size ∧ ∀ b o, b < w1.heap.size → w'.cell? ⟨b, o, none⟩ = w1.cell? ⟨b, o, none⟩) → Calls Tryz.prog 40 #[.agg #[.int .i64 (WW : Nat), .int .i64 (HH : Nat), .slice A L.length c]] w' fun e w2 => (∃ m, e = .returned (.int .i64 m) ∧ M.SpecM L WW HH m ∧ m ≤ (WW : Nat)) ∧ Below w'.heap.size w' w2 := fun w' hS => cuLine_any WW HH A L.length c L w' rfl hc HG.out (sqsS HLT.out hS)
  have C2 : ∀ w' : World, (Below w1.heap.size w1 w' ∧ w1.heap.size ≤ w'.heap.size ∧ ∀ b o, b < w1.heap.size → w'.cell? ⟨b, o, none⟩ = w1.cell? ⟨b, o, none⟩) → Calls Tryz.prog 41 #[.agg #[.int .i64 (WW : Nat), .int .i64 (HH : Nat), .slice A L.length c]] w' (RetOrd w' w'.heap.size HH WW (turnL HH L)) := fun w' hS => cuTurn_any WW HH A L.length c L w' rfl hc (sqsS HLT.out hS) HG.out
  have C3 : ∀ (Ag : Option Addr) (cg : Nat) (w' : World), (∃ base, w'.ownsRow base 69 3 (.slice Ag (turnL HH L).length cg) (turnL HH L).length (flat (srt (turnL HH L)))) → Calls Tryz.prog 40 #[.agg #[.int .i64 (HH : Nat), .int .i64 (WW : Nat), .slice Ag (turnL HH L).length cg]] w' fun e w2 => (∃ m, e = .returned (.int .i64 m) ∧ M.SpecM (srt (turnL HH L)) HH WW m ∧ m ≤ (HH : Nat)) ∧ Below w'.heap.size w' w2 := fun Ag cg w' hS => by
    obtain ⟨base, hown⟩ := hS
    exact cuLine_any HH WW Ag _ cg (srt (turnL HH L)) w' (srt_len _) (own_cap hown) HG'.out (sqs_of_own hown)
  go_wp2_with fail
  go_region_held3 (fun w' => Below w1.heap.size w1 w' ∧ w1.heap.size ≤ w'.heap.size ∧ ∀ b o, b < w1.heap.size → w'.cell? ⟨b, o, none⟩ = w1.cell? ⟨b, o, none⟩)
    (first | assumption | exact keepS (by assumption) (by assumption) | exact ⟨(Below.refl _ _).drew, Nat.le_refl _, fun _ _ _ => rfl⟩)
    (first
      | (go_at_call 41; (with_reducible refine (C2 _ (by assumption)).mono ?_); rintro e w3 ⟨Ag, cg, T, rfl, hp, hs, hown, hb3⟩; obtain rfl := srt_uniq hp hs ((fill_turn (good_fill HG.out)).dist))
      | (go_at_call 40; (with_reducible refine (C1 _ (by assumption)).mono ?_); rintro e w2 ⟨⟨m1, rfl, hm1, hm1'⟩, hb2⟩)
      | (go_at_call 40; (with_reducible refine (C3 _ _ _ (by first | exact ⟨_, hown⟩ | exact ⟨_, own_keep hown (by assumption)⟩)).mono ?_); rintro e w4 ⟨⟨m2, rfl, hm2, hm2'⟩, hb4⟩)
      | (go_at_call 39; (with_reducible refine (l1Most_any _ _ _).mono ?_); rintro e w5 ⟨rfl, rfl⟩))
  have hBF := hB1.trans ((belowS (B := w1.heap.size) (wp := w4) (by assumption)).mono hB1.size)
  have N1 := Lib.hid hm1
  have N2 := Lib.hid hm2
  clear hm1 hm2 C1 C2 C3 hp hs hown hb2 hb3 hb4
  go_wp2_with fail
  go_ret
  have hsay : LongSays WW HH L (mxI m1 m2) true := .inl ⟨HG.out, rfl, WW, HH, m1, m2, rfl, rfl, .inl N1.out, .inl N2.out, by unfold mxI; split <;> omega⟩
  exact ⟨by rw [← lineN_eq hsay HG.out]; rfl, hBF⟩
end Go.Proofs.YtchabjmdjpfkfaaGreat
namespace Go.Proofs.YtchabjmdjpfkfaaGreat
open Go.RowKit Go.Shelf

set_option maxRecDepth 100000 in
set_option maxHeartbeats 8000000 in
theorem pv_1 (W H : Int) (A : Option Addr) (n c : Nat) (L : List Sq) (a : Int) (w : World) (hl : L.length = n) (hc : n ≤ c) (hL : SqsAt w w.heap.size A L) (hG : Good W H L) :
    Calls Tryz.prog 21 #[.int .i64 1, .int .i64 a, .agg #[.int .i64 W, .int .i64 H, .slice A n c]] w fun e w' => e = .returned (.int .i64 ((sideN L a : Nat))) ∧ Below w.heap.size w w' := by
  subst hl
  have B0 : Below w.heap.size w (w.alloc (.cells #[.int .i64 W, .int .i64 H, .slice A L.length c] 48)) := (Below.refl _ _).alloc (Nat.le_refl _) _
  have K0 := Cv3.start w (.int .i64 W) (.int .i64 H) (.slice A L.length c) 48
  have h30 : L.length ≤ 30 := hG.2.2.1.2
  have hf : ∀ s ∈ L, Fine s := fun s hs => by
    obtain ⟨j, hj⟩ := List.getElem?_of_mem hs
    exact (hG.2.2.2.1 j s hj).1.fine hG.1.2 hG.2.1.2
  obtain ⟨kl, k0, k1, k2⟩ := id K0
  go_enter Tryz.func21, Tryz.ntmps21
  go_wp2_with fail
  clear kl k0 k1 k2
  obtain ⟨W0, hW⟩ : ∃ W0, W0 = w.alloc (.cells #[.int .i64 W, .int .i64 H, .slice A L.length c] 48) := ⟨_, rfl⟩
  rw [← hW] at B0 K0 ⊢
  clear hW
  have HG := Lib.hid hG
  have HF := Lib.hid hf
  have hLT := (hL.below B0).mono B0.size
  clear hG hf
  go_loopw [7, 63] (fun q i wr => ∃ k : Nat, k ≤ L.length ∧ i = .int .i64 k ∧ q = .int .i64 ((sideN (L.take k) a : Nat)) ∧ Below W0.heap.size W0 wr ∧ Cv3 w.heap.size wr (.int .i64 W) (.int .i64 H) (.slice A L.length c)) (fun _ i _ => L.length - (intOf i).toNat)
  case atStart => exact ⟨0, Nat.zero_le _, rfl, by simp [sideN], Below.refl _ _, K0⟩
  case round =>
    obtain ⟨k, hk, rfl, rfl, hbr, KR⟩ := hrel
    by_cases hlt : k < L.length
    · obtain ⟨s, hs⟩ : ∃ s, L[k]? = some s := ⟨_, List.getElem?_eq_getElem hlt⟩
      obtain ⟨b, off, rfl, hb, c0, c1, c2⟩ := hLT k s hs
      have c0' := (hbr.cell (p := ⟨b, off + k * 3, none⟩) hb).trans c0
      have c1' := (hbr.cell (p := ⟨b, off + k * 3 + 1, none⟩) hb).trans c1
      have c2' := (hbr.cell (p := ⟨b, off + k * 3 + 2, none⟩) hb).trans c2
      have i0 : (0 : Int) ≤ (k : Int) := by omega
      have i1 : (k : Int) < (L.length : Int) := by omega
      have hz := KR.lt
      have hst : sideN (L.take (k + 1)) a = sideN (L.take k) a + (if s.d == a then 1 else 0) := by rw [List.take_add_one, hs]; exact sideN_app _ _ _
      have hsl := sideN_le (L.take k) a
      rw [List.length_take] at hsl
      obtain ⟨m, hm⟩ : ∃ m, sideN (L.take k) a = m := ⟨_, rfl⟩
      rw [hm] at hst hsl ⊢
      have HST := Lib.hid hst
      clear hst hm c0 c1 c2 hL hLT hs K0 B0
      obtain ⟨kl, k0, k1, k2⟩ := id KR
      cases hd : s.d == a with
      | true =>
        go_wp2_with fail
        have hb3 : Below wr.heap.size wr (wr.alloc (.cells #[.int .i64 s.x, .int .i64 s.y, .int .i64 s.d] 69)) := (Below.refl _ _).alloc (Nat.le_refl _) _
        have KN := KR.next hb3
        go_roundw
        case rel =>
          refine ⟨k + 1, by omega, by go_num, ?_, hbr.trans (hb3.mono hbr.size), KN⟩
          have he : sideN (L.take (k + 1)) a = m + 1 := (by rw [HST.out, hd]; simp)
          rw [he]; go_num
        case measure => simp [intOf]; omega
      | false =>
        go_wp2_with fail
        have hb3 : Below wr.heap.size wr (wr.alloc (.cells #[.int .i64 s.x, .int .i64 s.y, .int .i64 s.d] 69)) := (Below.refl _ _).alloc (Nat.le_refl _) _
        have KN := KR.next hb3
        go_roundw
        case rel =>
          refine ⟨k + 1, by omega, by go_num, ?_, hbr.trans (hb3.mono hbr.size), KN⟩
          have he : sideN (L.take (k + 1)) a = m := (by rw [HST.out, hd]; simp)
          rw [he]
        case measure => simp [intOf]; omega
    · obtain rfl : k = L.length := by omega
      rw [List.take_length]
      go_wp2_with fail
      go_ret
      exact ⟨rfl, B0.trans (hbr.mono B0.size)⟩
set_option maxRecDepth 100000 in
set_option maxHeartbeats 8000000 in
theorem pv_4 (W H : Int) (A : Option Addr) (n c : Nat) (L : List Sq) (a : Int) (w : World) (hl : L.length = n) (hc : n ≤ c) (hL : SqsAt w w.heap.size A L) (hG : Good W H L) :
    Calls Tryz.prog 21 #[.int .i64 4, .int .i64 a, .agg #[.int .i64 W, .int .i64 H, .slice A n c]] w fun e w' => e = .returned (.int .i64 (((crossL L L.length).length : Nat))) ∧ Below w.heap.size w w' := by
  subst hl
  have B0 : Below w.heap.size w (w.alloc (.cells #[.int .i64 W, .int .i64 H, .slice A L.length c] 48)) := (Below.refl _ _).alloc (Nat.le_refl _) _
  have K0 := Cv3.start w (.int .i64 W) (.int .i64 H) (.slice A L.length c) 48
  have h30 : L.length ≤ 30 := hG.2.2.1.2
  have hf : ∀ s ∈ L, Fine s := fun s hs => by
    obtain ⟨j, hj⟩ := List.getElem?_of_mem hs
    exact (hG.2.2.2.1 j s hj).1.fine hG.1.2 hG.2.1.2
  obtain ⟨kl, k0, k1, k2⟩ := id K0
  go_enter Tryz.func21, Tryz.ntmps21
  go_wp2_with fail
  clear kl k0 k1 k2
  obtain ⟨W0, hW⟩ : ∃ W0, W0 = w.alloc (.cells #[.int .i64 W, .int .i64 H, .slice A L.length c] 48) := ⟨_, rfl⟩
  rw [← hW] at B0 K0 ⊢
  clear hW
  have HG := Lib.hid hG
  have HF := Lib.hid hf
  have hLT := (hL.below B0).mono B0.size
  clear hG hf
  go_loopw [7, 63] (fun q i wr => ∃ k : Nat, k ≤ L.length ∧ i = .int .i64 k ∧ q = .int .i64 (((crossL L k).length : Nat)) ∧ Below W0.heap.size W0 wr ∧ Cv3 w.heap.size wr (.int .i64 W) (.int .i64 H) (.slice A L.length c)) (fun _ i _ => L.length - (intOf i).toNat)
  case atStart => exact ⟨0, Nat.zero_le _, rfl, by simp [crossL], Below.refl _ _, K0⟩
  case round =>
    obtain ⟨k, hk, rfl, rfl, hbr, KR⟩ := hrel
    by_cases hlt : k < L.length
    · obtain ⟨s, hs⟩ : ∃ s, L[k]? = some s := ⟨_, List.getElem?_eq_getElem hlt⟩
      obtain ⟨b, off, rfl, hb, c0, c1, c2⟩ := hLT k s hs
      have c0' := (hbr.cell (p := ⟨b, off + k * 3, none⟩) hb).trans c0
      have c1' := (hbr.cell (p := ⟨b, off + k * 3 + 1, none⟩) hb).trans c1
      have c2' := (hbr.cell (p := ⟨b, off + k * 3 + 2, none⟩) hb).trans c2
      have i0 : (0 : Int) ≤ (k : Int) := by omega
      have i1 : (k : Int) < (L.length : Int) := by omega
      have hz := KR.lt
      have hst := congrArg List.length (crossL_succ L k s hs)
      have hsl := crossL_len L k
      rw [List.length_append] at hst
      obtain ⟨m, hm⟩ : ∃ m, (crossL L k).length = m := ⟨_, rfl⟩
      rw [hm] at hst hsl ⊢
      have HST := Lib.hid hst
      have hcn := corN_le L s.x s.y L.length
      have C := fun w' (hb' : Below wr.heap.size wr w') => cuCorners_any W H (some ⟨b, off, none⟩) L.length c L s.x s.y w' rfl h30 ((hLT.below (hbr.trans (hb'.mono hbr.size))).mono (Nat.le_trans hbr.size hb'.size)) HF.out
      obtain ⟨N, hN⟩ : ∃ N, corN L s.x s.y L.length = N := ⟨_, rfl⟩
      rw [hN] at C hcn
      have HN := Lib.hid hN
      clear hN hst hm c0 c1 c2 hL hLT hs K0 B0
      obtain ⟨kl, k0, k1, k2⟩ := id KR
      cases hd : (N : Int) == 4 with
      | true =>
        go_wp2_with fail
        clear kl k0 k1 k2
        obtain ⟨W1, hW1⟩ : ∃ W1, W1 = wr.alloc (.cells #[.int .i64 s.x, .int .i64 s.y, .int .i64 s.d] 69) := ⟨_, rfl⟩
        have hb1 : Below wr.heap.size wr W1 := by rw [hW1]; exact (Below.refl _ _).alloc (Nat.le_refl _) _
        rw [← hW1]
        clear hW1
        refine (C W1 hb1).mono ?_
        rintro e w2 ⟨rfl, hb2⟩
        have hb3 := hb1.trans (hb2.mono hb1.size)
        clear c0' c1' c2' C
        have KN := KR.next hb3
        have hz2 := hb3.size
        go_wp2_with fail
        go_roundw
        case rel =>
          refine ⟨k + 1, by omega, by go_num, ?_, hbr.trans (hb3.mono hbr.size), KN⟩
          have he : (crossL L (k + 1)).length = m + 1 := (by have h := HST.out; rw [HN.out, (show (N == 4) = true by simp at hd ⊢; omega)] at h; simp at h; omega)
          rw [he]; go_num
        case measure => simp [intOf]; omega
      | false =>
        go_wp2_with fail
        clear kl k0 k1 k2
        obtain ⟨W1, hW1⟩ : ∃ W1, W1 = wr.alloc (.cells #[.int .i64 s.x, .int .i64 s.y, .int .i64 s.d] 69) := ⟨_, rfl⟩
        have hb1 : Below wr.heap.size wr W1 := by rw [hW1]; exact (Below.refl _ _).alloc (Nat.le_refl _) _
        rw [← hW1]
        clear hW1
        refine (C W1 hb1).mono ?_
        rintro e w2 ⟨rfl, hb2⟩
        have hb3 := hb1.trans (hb2.mono hb1.size)
        clear c0' c1' c2' C
        have KN := KR.next hb3
        have hz2 := hb3.size
        go_wp2_with fail
        go_roundw
        case rel =>
          refine ⟨k + 1, by omega, by go_num, ?_, hbr.trans (hb3.mono hbr.size), KN⟩
          have he : (crossL L (k + 1)).length = m := (by have h := HST.out; rw [HN.out, (show (N == 4) = false by simp at hd ⊢; omega)] at h; simp at h; omega)
          rw [he]
        case measure => simp [intOf]; omega
    · obtain rfl : k = L.length := by omega
      go_wp2_with fail
      go_ret
      exact ⟨rfl, B0.trans (hbr.mono B0.size)⟩
theorem pv_any (k a : Int) (hk : 0 ≤ k ∧ k ≤ 5) (ha : k = 3 → 0 ≤ a ∧ a ≤ 3) (W H : Int) (A : Option Addr) (n c : Nat) (L : List Sq) (w : World) (hl : L.length = n) (hc : n ≤ c) (hL : SqsAt w w.heap.size A L) (hG : Good W H L) :
    Calls Tryz.prog 21 #[.int .i64 k, .int .i64 a, .agg #[.int .i64 W, .int .i64 H, .slice A n c]] w fun e w' => e = .returned (.int .i64 (valN W H L k a)) ∧ Below w.heap.size w w' := by
  rcases (by omega : k = 0 ∨ k = 1 ∨ k = 2 ∨ k = 3 ∨ k = 4 ∨ k = 5) with rfl | rfl | rfl | rfl | rfl | rfl
  · exact pv_0 W H A n c L a w hl hc hL hG
  · exact pv_1 W H A n c L a w hl hc hL hG
  · exact pv_2 W H A n c L a w hl hc hL hG
  · obtain ⟨i, rfl⟩ : ∃ i : Nat, a = i := ⟨a.toNat, by have := ha rfl; omega⟩
    exact pv_3 W H A n c L i w hl hc hL hG (by have := ha rfl; omega)
  · exact pv_4 W H A n c L a w hl hc hL hG
  · exact pv_5 W H A n c L a w hl hc hL hG
theorem pzAlone_any (k : Int) (w : World) : Calls Tryz.prog 53 #[.int .i64 k] w fun e w' => e = .returned (.bool (aloneB k)) ∧ w = w' := by
  unfold aloneB
  cases h0 : k == 0 with
  | true =>
    go_enter Tryz.func53, Tryz.ntmps53
    go_wp2
    go_ret
    exact ⟨by simp, rfl⟩
  | false =>
    cases h3 : decide (3 < k) with
    | true =>
      go_enter Tryz.func53, Tryz.ntmps53
      go_wp2
      go_ret
      exact ⟨by simp, rfl⟩
    | false =>
      go_enter Tryz.func53, Tryz.ntmps53
      go_wp2
      go_ret
      exact ⟨by simp, rfl⟩
set_option maxRecDepth 100000 in
set_option maxHeartbeats 4000000 in
theorem pzFits_any (s : Sq) (W H : Int) (A : Option Addr) (n c : Nat) (L : List Sq) (w : World) (hl : L.length = n) (hc : n ≤ c) (hL : SqsAt w w.heap.size A L) (hG : Good W H L) (hs : AskOk s) :
    Calls Tryz.prog 35 #[.agg #[.int .i64 s.x, .int .i64 s.y, .int .i64 s.d], .agg #[.int .i64 W, .int .i64 H, .slice A n c]] w fun e w' => e = .returned (.bool (fitN W H L s)) ∧ Below w.heap.size w w' := by
  subst hl
  have B0 : Below w.heap.size w ((w.alloc (.cells #[.int .i64 s.x, .int .i64 s.y, .int .i64 s.d] 60)).alloc (.cells #[.int .i64 W, .int .i64 H, .slice A L.length c] 48)) := ((Below.refl _ _).alloc (Nat.le_refl _) _).alloc (by simp) _
  have K0 := (Cv3.start w (.int .i64 s.x) (.int .i64 s.y) (.int .i64 s.d) 60).next ((Below.refl _ _).alloc (Nat.le_refl _) (.cells #[.int .i64 W, .int .i64 H, .slice A L.length c] 48))
  have J0 := Cv3.start (w.alloc (.cells #[.int .i64 s.x, .int .i64 s.y, .int .i64 s.d] 60)) (.int .i64 W) (.int .i64 H) (.slice A L.length c) 48
  rw [World.size_alloc] at J0
  have CA := fun w' => pzAlone_any s.x w'
  cases ha : aloneB s.x with
  | true =>
    rw [ha] at CA
    go_enter Tryz.func35, Tryz.ntmps35
    go_wp2_with fail
    obtain ⟨W0, hW0⟩ : ∃ W0, W0 = (w.alloc (.cells #[.int .i64 s.x, .int .i64 s.y, .int .i64 s.d] 60)).alloc (.cells #[.int .i64 W, .int .i64 H, .slice A L.length c] 48) := ⟨_, rfl⟩
    rw [← hW0] at B0 K0 J0 ⊢
    clear hW0
    refine (CA _).mono ?_
    rintro e w' ⟨rfl, rfl⟩
    go_wp2_with fail
    have hB : ∀ u : Later W0.heap.size W0, Below w.heap.size w u.val := fun u => B0.trans (u.ok.mono B0.size)
    have C := fun (u : Later W0.heap.size W0) => pv_any s.x 0 hs.1 (fun h => by omega) W H A L.length c L u.val rfl hc ((hL.below (hB u)).mono (hB u).size) hG
    have F0 : ∀ u : Later W0.heap.size W0, u.val.cell? ⟨w.heap.size, 0, none⟩ = some (.int .i64 s.x) := fun u => (u.ok.cell (p := ⟨_, _, none⟩) K0.lt).trans K0.c0
    have F1 : ∀ u : Later W0.heap.size W0, u.val.cell? ⟨w.heap.size, 1, none⟩ = some (.int .i64 s.y) := fun u => (u.ok.cell (p := ⟨_, _, none⟩) K0.lt).trans K0.c1
    have F2 : ∀ u : Later W0.heap.size W0, u.val.cell? ⟨w.heap.size, 2, none⟩ = some (.int .i64 s.d) := fun u => (u.ok.cell (p := ⟨_, _, none⟩) K0.lt).trans K0.c2
    have G0 : ∀ u : Later W0.heap.size W0, u.val.cell? ⟨w.heap.size + 1, 0, none⟩ = some (.int .i64 W) := fun u => (u.ok.cell (p := ⟨_, _, none⟩) J0.lt).trans J0.c0
    have G1 : ∀ u : Later W0.heap.size W0, u.val.cell? ⟨w.heap.size + 1, 1, none⟩ = some (.int .i64 H) := fun u => (u.ok.cell (p := ⟨_, _, none⟩) J0.lt).trans J0.c1
    have G2 : ∀ u : Later W0.heap.size W0, u.val.cell? ⟨w.heap.size + 1, 2, none⟩ = some (.slice A L.length c) := fun u => (u.ok.cell (p := ⟨_, _, none⟩) J0.lt).trans J0.c2
    refine wp_region_sub W0.heap.size (by kernel_rfl) (by kernel_rfl) ?_
    repeat (first | go_big_quiet_step ((go_at_call 21; exact sub_of _ (Nat.le_refl _) (C _))) | quiet_step ((go_at_call 21; exact sub_of _ (Nat.le_refl _) (C _))))
    refine wpQuiet_nil ?_
    rintro w3 ⟨uu, hu⟩
    have hb2 : Below W0.heap.size W0 w3 := by rw [hu]; exact uu.ok
    clear hu uu F0 F1 F2 G0 G1 G2 C
    go_wp2_with fail
    go_ret
    exact ⟨ret_bool (by unfold fitN; rw [ha]; rfl), B0.trans (hb2.mono B0.size)⟩
  | false =>
    rw [ha] at CA
    go_enter Tryz.func35, Tryz.ntmps35
    go_wp2_with fail
    obtain ⟨W0, hW0⟩ : ∃ W0, W0 = (w.alloc (.cells #[.int .i64 s.x, .int .i64 s.y, .int .i64 s.d] 60)).alloc (.cells #[.int .i64 W, .int .i64 H, .slice A L.length c] 48) := ⟨_, rfl⟩
    rw [← hW0] at B0 K0 J0 ⊢
    clear hW0
    refine (CA _).mono ?_
    rintro e w' ⟨rfl, rfl⟩
    go_wp2_with fail
    have hB : ∀ u : Later W0.heap.size W0, Below w.heap.size w u.val := fun u => B0.trans (u.ok.mono B0.size)
    have C := fun (u : Later W0.heap.size W0) => pv_any s.x s.y hs.1 hs.2 W H A L.length c L u.val rfl hc ((hL.below (hB u)).mono (hB u).size) hG
    have F0 : ∀ u : Later W0.heap.size W0, u.val.cell? ⟨w.heap.size, 0, none⟩ = some (.int .i64 s.x) := fun u => (u.ok.cell (p := ⟨_, _, none⟩) K0.lt).trans K0.c0
    have F1 : ∀ u : Later W0.heap.size W0, u.val.cell? ⟨w.heap.size, 1, none⟩ = some (.int .i64 s.y) := fun u => (u.ok.cell (p := ⟨_, _, none⟩) K0.lt).trans K0.c1
    have F2 : ∀ u : Later W0.heap.size W0, u.val.cell? ⟨w.heap.size, 2, none⟩ = some (.int .i64 s.d) := fun u => (u.ok.cell (p := ⟨_, _, none⟩) K0.lt).trans K0.c2
    have G0 : ∀ u : Later W0.heap.size W0, u.val.cell? ⟨w.heap.size + 1, 0, none⟩ = some (.int .i64 W) := fun u => (u.ok.cell (p := ⟨_, _, none⟩) J0.lt).trans J0.c0
    have G1 : ∀ u : Later W0.heap.size W0, u.val.cell? ⟨w.heap.size + 1, 1, none⟩ = some (.int .i64 H) := fun u => (u.ok.cell (p := ⟨_, _, none⟩) J0.lt).trans J0.c1
    have G2 : ∀ u : Later W0.heap.size W0, u.val.cell? ⟨w.heap.size + 1, 2, none⟩ = some (.slice A L.length c) := fun u => (u.ok.cell (p := ⟨_, _, none⟩) J0.lt).trans J0.c2
    refine wp_region_sub W0.heap.size (by kernel_rfl) (by kernel_rfl) ?_
    repeat (first | go_big_quiet_step ((go_at_call 21; exact sub_of _ (Nat.le_refl _) (C _))) | quiet_step ((go_at_call 21; exact sub_of _ (Nat.le_refl _) (C _))))
    refine wpQuiet_nil ?_
    rintro w3 ⟨uu, hu⟩
    have hb2 : Below W0.heap.size W0 w3 := by rw [hu]; exact uu.ok
    clear hu uu F0 F1 F2 G0 G1 G2 C
    go_wp2_with fail
    go_ret
    exact ⟨ret_bool (by unfold fitN; rw [ha]; rfl), B0.trans (hb2.mono B0.size)⟩
end Go.Proofs.YtchabjmdjpfkfaaGreat
