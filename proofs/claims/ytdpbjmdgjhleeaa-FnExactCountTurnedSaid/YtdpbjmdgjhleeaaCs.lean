/- The program's cuts by squares. -/
import Derived.Test.YtdpbjmdgjhleeaaFoM
set_option linter.all false
namespace Go.Proofs.Ytdpbjmdgjhleeaa
open Go.RowKit Go.Shelf
attribute [local go_sem] Oper.semAt_some

def okF (W H : Int) : Bool := inB W 1 6 && inB H 1 6
theorem okF_iff {W H : Int} : okF W H = true ↔ (1 ≤ W ∧ W ≤ 6) ∧ 1 ≤ H ∧ H ≤ 6 := by simp [okF, inB]
/-- How many cuts have 1, 2, .. squares, as the machine counts. -/
noncomputable def byF (W H : Int) : List Int := if okF W H then tally 0 (List.replicate (W.toNat * H.toNat) 0) (allF W.toNat H.toNat) else []

theorem counted_yes (W H : Int) (hok : okF W H = true) (w : World) :
    Calls Try.prog 109 #[.int .i64 W, .int .i64 H] w fun e w' => e = .returned (.tuple #[.func (.func 152) #[] #[.pointer (some ⟨w.heap.size, 0, none⟩), .pointer (some ⟨w.heap.size + 1, 0, none⟩)], .bool true]) ∧ w' = (w.alloc (.cells #[.int .i64 W] 3)).alloc (.cells #[.int .i64 H] 3) := by
  have ha := areUpTo_any 6 W H w
  rw [show (inB W 1 6 && inB H 1 6) = true from hok] at ha
  go_enter Try.func109, Try.ntmps109
  go_wp2_with fail
  refine ha.mono ?_
  rintro e w' ⟨rfl, rfl⟩
  go_wp2_with fail
  refine (fillings_any W H w).mono ?_
  rintro e w' ⟨rfl, rfl⟩
  go_wp2_with fail
  go_ret2
  exact ⟨rfl, rfl⟩
theorem counted_no (W H : Int) (hok : okF W H = false) (w : World) :
    Calls Try.prog 109 #[.int .i64 W, .int .i64 H] w fun e w' => (∃ v, e = .returned (.tuple #[v, .bool false])) ∧ Below w.heap.size w w' := by
  have ha := areUpTo_any 6 W H w
  rw [show (inB W 1 6 && inB H 1 6) = false from hok] at ha
  go_enter Try.func109, Try.ntmps109
  go_wp2_with fail
  refine ha.mono ?_
  rintro e w' ⟨rfl, rfl⟩
  go_wp2_with fail
  refine (valuesC_any _ _ _ _).mono ?_
  rintro e w' ⟨rfl, hb⟩
  go_wp2_with fail
  go_ret2
  exact ⟨⟨_, rfl⟩, ((Below.refl _ _).alloc (Nat.le_refl _) _).trans (hb.mono (by simp))⟩

/-- What depends on the blocks below B alone is the loop's own beside the iterator's blocks. -/
theorem ownX_below {β : Type} (B : Nat) (p : β → World → Prop) (hp : ∀ s A C, p s A → Below B A C → p s C) : OwnX B (fun X s W => (∀ k, X k → B ≤ k) ∧ p s W) := by
  refine ⟨fun X s A C row h hg hB hr => ⟨fun k hk => ?_, hp s A C h.2 ⟨hg.os, hg.tape, hg.output, hg.size, fun k hk => hg.block k (by omega) (fun e => by have := h.1 k (hr k e.symm); omega)⟩⟩,
    fun X s A k o o' h hB hk ho => ⟨h.1, hp s A _ h.2 ((Below.refl B A).grown (grownBy_putObj' A k o') (by have := (Array.getElem?_eq_some_iff.1 hk).1; omega) (fun j e => by cases e; exact hB))⟩,
    fun X X' s A h hx => ⟨fun k hk => h.1 k (hx k hk), h.2⟩⟩
  rcases hk with hk | hk
  · exact h.1 k hk
  · omega

/-- The squares of what has come. -/
def firsts (pre : List CV) : List (List Sq) := pre.map (·.1)
theorem okC_put {B : Nat} {X : Nat → Prop} {x : CV} {A : World} {k : Nat} {o o' : Obj} (h : OkC B X x A) (hk : A.heap[k]? = some o) (ho : o.isCells = false) : OkC B X x (A.putObj k o') := by
  refine ⟨h.1.kept (grownBy_putObj' A k o') ?_, h.2⟩
  rcases h.1.2 with ⟨hv, _⟩ | ⟨g, cap, cur, hv, _, hg, _⟩
  · exact .inl (by rw [hv]; rfl)
  · refine .inr fun e => ?_
    rw [hv] at e
    cases e
    rw [show A.heap[g]? = _ from hg] at hk
    cases hk; cases ho
/-- The loop's own: the box of the list, and the list. -/
structure CM (N g Bc S : Nat) (B : List Int) (w W : World) : Prop where
  c : W.cell? ⟨Bc, 0, none⟩ = some (.slice (some ⟨g, 0, none⟩) S S)
  own : W.ownsRow N 3 1 (.slice (some ⟨g, 0, none⟩) S S) S (ints B)
  b : Below N w W
theorem CM.below {N g Bc S L : Nat} {B : List Int} {w A C : World} (h : CM N g Bc S B w A) (hb : Below L A C) (hN : N ≤ L) (h1 : Bc < L) (h2 : g < L) : CM N g Bc S B w C :=
  ⟨(hb.cell (p := ⟨Bc, 0, none⟩) h1).trans h.c, own_of_block h.own (fun k hk => by cases hk; exact hb.block g h2), h.b.trans (hb.mono hN)⟩
theorem CM.set {N g Bc S : Nat} {B : List Int} {w A : World} (h : CM N g Bc S B w A) (hN : N ≤ g) (hne : g ≠ Bc) (j : Nat) (v : Int) : CM N g Bc S (B.set j v) w (A.setCell ⟨g, j, none⟩ (.int .i64 v)) :=
  ⟨(World.cell?_setCell_other _ _ _ _ (fun e => hne (Addr.mk.inj e).1)).trans h.c, by rw [ints_set]; exact (h.own.stored j (.int .i64 v)).1, h.b.setCell (p := ⟨g, j, none⟩) hN _⟩

set_option maxRecDepth 100000 in
set_option maxHeartbeats 8000000 in
theorem implBy_yes (W H : Nat) (hW : 1 ≤ W ∧ W ≤ 6) (hH : 1 ≤ H ∧ H ≤ 6) (w : World) :
    Calls Try.prog 62 #[.int .i64 W, .int .i64 H] w (RetInts w (tally 0 (List.replicate (W * H) 0) (allF W H)) true) := by
  have hok : okF W H = true := okF_iff.2 (by omega)
  obtain ⟨S, hS⟩ : ∃ S, S = W * H := ⟨_, rfl⟩
  have hS1 : 1 ≤ S := by rw [hS]; exact Nat.mul_pos (by omega) (by omega)
  have hS36 : S ≤ 36 := by rw [hS]; exact Nat.le_trans (Nat.mul_le_mul hW.2 hH.2) (by omega)
  have hmul : (W : Int) * (H : Int) = (S : Int) := by rw [hS]; simp
  obtain ⟨W2, hW2⟩ : ∃ W2, W2 = (w.alloc (.cells #[.int .i64 W] 3)).alloc (.cells #[.int .i64 H] 3) := ⟨_, rfl⟩
  have hz2 : W2.heap.size = w.heap.size + 2 := by rw [hW2]; simp
  have hB2 : Below w.heap.size w W2 := by rw [hW2]; exact ((Below.refl _ _).alloc (Nat.le_refl _) _).alloc (by simp) _
  have cw : W2.cell? ⟨w.heap.size, 0, none⟩ = some (.int .i64 W) := by rw [hW2, World.cell?_alloc_lt _ _ _ (by simp)]; simp [go_sem]
  have ch : W2.cell? ⟨w.heap.size + 1, 0, none⟩ = some (.int .i64 H) := by rw [hW2]; simp [go_sem]
  obtain ⟨i0, hi, hz0, hz1, hzb⟩ := info_parts infoInt
  obtain ⟨w3, hrun, hown, hgr⟩ := run_make_full (P := Try.prog) W2 w.heap.size 49 3 i0 (.int .i64 0) 1 Try.underlying49 hi hz0 hz1 .i64 .i64 S (by rw [hzb]; omega) (by unfold maxLen; omega) (by omega)
  have CC := counted_yes W H hok w
  rw [← hW2] at CC
  rw [← hS]
  have HW2 := Lib.hid hW2
  have HS := Lib.hid hS
  clear hW2 hS
  refine (callsIn_wide (n := 5)).1 ?_
  refine callsIn_of_wp_marks Try.func62 rfl trivial ?_ rfl
  simp only [Try.ntmps62, List.size_toArray, List.length_cons, List.length_nil, Nat.reduceAdd, Nat.reduceSub, Array.replicate_succ, Array.replicate_zero, List.push_toArray, List.append_toArray, List.nil_append, List.cons_append]
  gi_wp2
  refine ⟨trivial, (callsIn_wide.2 CC).mono ?_⟩
  rintro e w2 ⟨rfl, hw2⟩
  rw [hw2]
  clear hw2 w2 CC
  gi_wp2
  have hz3 := own_lt hown
  rw [hz2] at hz3 hown
  obtain ⟨W4, hW4⟩ : ∃ W4, W4 = w3.alloc (.cells #[.slice (some ⟨w.heap.size + 2, 0, none⟩) S S] 49) := ⟨_, rfl⟩
  have hB24 : Below W2.heap.size W2 W4 := by rw [hW4]; exact ((Below.refl _ _).grown hgr (Nat.le_refl _) (fun k e => by cases e)).alloc hgr.size _
  have hz4 : W4.heap.size = w3.heap.size + 1 := by rw [hW4]; simp
  have hM4 : CM w.heap.size (w.heap.size + 2) w3.heap.size S (List.replicate S 0) w W4 := by
    have hl : (madeCells (Value.int .i64 0).cells (S * 1)).toList = ints (List.replicate S 0) := by
      rw [show (Value.int .i64 0).cells = #[.int .i64 0] from rfl, toList_madeCells_one]; simp [ints]
    rw [hl] at hown
    refine ⟨by rw [hW4]; simp [go_sem], by rw [hW4]; exact hown.alloc _, hB2.trans (hB24.mono hB2.size)⟩
  have hTl : ∀ M ∈ allF W H, 0 < M.length ∧ M.length ≤ S := fun M hM => by
    have h1 := fills_len hW.1 (Fl.start W (H := H) (by omega)) M hM
    rw [free_start, ← HS.out] at h1
    exact ⟨h1.2.1 (by omega) (by omega), h1.1⟩
  have HTL := Lib.hid hTl
  rw [← hW4]
  clear hW4 hTl hrun hown hgr hmul
  refine wpIn_rangeFunc_x rfl (by decide) (gf := 152) (lb := #[.pointer (some ⟨w.heap.size, 0, none⟩), .pointer (some ⟨w.heap.size + 1, 0, none⟩)]) rfl trivial (enters_of Try.func152 (by kernel_rfl) rfl)
    (fill_seq W H hW hH _ w.heap.size (w.heap.size + 1) W2 cw ch) (fun X x A k o o' h hk ho => ⟨h.1, okC_put h.2 hk ho⟩) hB24 (fun _ => rfl)
    (fun X pre V => (∀ k, X k → W4.heap.size ≤ k) ∧ CM w.heap.size (w.heap.size + 2) w3.heap.size S (tally 0 (List.replicate S 0) (firsts pre)) w V) (fun _ _ _ => False)
    (ownX_below W4.heap.size (fun (pre : List CV) V => CM w.heap.size (w.heap.size + 2) w3.heap.size S (tally 0 (List.replicate S 0) (firsts pre)) w V) (fun s A C h hb => h.below hb (by omega) (by omega) (by omega)))
    ⟨fun _ _ _ _ _ h _ _ _ => h.elim, fun _ _ _ _ _ _ h _ _ _ => h.elim, fun _ _ _ _ h _ => h.elim⟩ ⟨fun k h => h.elim, hM4⟩
    (fun x a' V => ∃ Bx, V.cell? ⟨Bx, 2, none⟩ = some (.slice x.2.1 x.1.length x.2.2) ∧ a' = { tmps := #[.int .i64 W, .int .i64 H, undef, undef, .slice none 0 0, .bool false, (.func (.func 152) #[] #[.pointer (some ⟨w.heap.size, 0, none⟩), .pointer (some ⟨w.heap.size + 1, 0, none⟩)]), .bool true, .pointer (some ⟨w3.heap.size, 0, none⟩), .pointer (some ⟨Bx, 0, none⟩), .tuple #[(.func (.func 152) #[] #[.pointer (some ⟨w.heap.size, 0, none⟩), .pointer (some ⟨w.heap.size + 1, 0, none⟩)]), .bool true], .int .i64 W, .int .i64 H, .tuple #[(.func (.func 152) #[] #[.pointer (some ⟨w.heap.size, 0, none⟩), .pointer (some ⟨w.heap.size + 1, 0, none⟩)]), .bool true], (.func (.func 152) #[] #[.pointer (some ⟨w.heap.size, 0, none⟩), .pointer (some ⟨w.heap.size + 1, 0, none⟩)]), .bool true, .bool true, .bool false, .int .i64 W, .int .i64 H, .int .i64 S, .slice (some ⟨w.heap.size + 2, 0, none⟩) S S, (.func (.func 152) #[] #[.pointer (some ⟨w.heap.size, 0, none⟩), .pointer (some ⟨w.heap.size + 1, 0, none⟩)]), .agg #[.int .i64 W, .int .i64 H, .slice x.2.1 x.1.length x.2.2], undef, undef, undef, undef, undef, undef, undef, undef, undef, undef], defers := [] })
    (fun x a' A k o o' h hk ho => by
      obtain ⟨Bx, h1, h2⟩ := h
      exact ⟨Bx, cell_kept h1 (grownBy_putObj' A k o') (fun r e => by cases e; exact ⟨o, hk, ho⟩), h2⟩) ?assign ?body ?done ?stop
  case assign =>
    rintro l X pre ⟨L, A, c⟩ V K ⟨hX, hM⟩ hok hX2 hsz hK
    dsimp only [encC]
    gi_wp2
    have hb := (Below.refl V.heap.size V).alloc (Nat.le_refl _) (.cells #[.int .i64 W, .int .i64 H, .slice A L.length c] 28)
    exact hK _ _ ((KeepsOthers.alloc _ _).from _) ⟨by simp, fun k hk => Below.heap_alloc V _ k (hX2 k hk).2⟩ ⟨hX, hM.below hb (by omega) (by omega) (by omega)⟩ ⟨hok.1, hok.2.1.alloc _, hok.2.2⟩ ⟨V.heap.size, by simp [go_sem], rfl⟩
  case body =>
    rintro l X pre ⟨L, A, c⟩ a' V ⟨hX, hM⟩ hok ⟨Bx, cb, rfl⟩ hX2 hsz
    dsimp only at cb ⊢
    have hl := HTL.out L hok.1
    obtain ⟨j, hj⟩ : ∃ j, L.length = j + 1 := ⟨L.length - 1, by omega⟩
    obtain ⟨B, hB⟩ : ∃ B, tally 0 (List.replicate S 0) (firsts pre) = B := ⟨_, rfl⟩
    have hbl : B.length = S := by rw [← hB, tally_len, List.length_replicate]
    have hnext : tally 0 (List.replicate S 0) (firsts (pre ++ [(L, A, c)])) = B.set j (wrap64 (B.getD j 0 + 1)) := by
      rw [firsts, List.map_append, tally_app, ← hB]
      show bump _ (0 + L.length - 1) = _
      rw [hj, show 0 + (j + 1) - 1 = j by omega]
      rfl
    rw [hB] at hM
    have HNX := Lib.hid hnext
    obtain ⟨u, hu⟩ : ∃ u, B.getD j 0 = u := ⟨_, rfl⟩
    have hcu : V.cell? ⟨w.heap.size + 2, j, none⟩ = some (.int .i64 u) := by
      rw [hM.own.cellAt j (by omega), ← hu]
      simp [ints, List.getD, List.getElem?_eq_getElem (show j < B.length by omega)]
    have hfu := hM.own.frozenAt j
    have cc := hM.c
    have j0 : (0 : Int) ≤ (j : Int) := by omega
    have j1 : (j : Int) < (S : Int) := by omega
    have HX := Lib.hid hX
    have HX2 := Lib.hid hX2
    have HU := Lib.hid hu
    rw [hj] at cb ⊢
    clear hB hbl hnext hX hX2 hl hj hok hu
    gi_wp2
    refine ⟨(KeepsOthers.setCell _ _ _).from _, ⟨by simp [World.setCell], fun k hk => Below.heap_setCell V _ _ k ?_⟩, HX.out, ?_⟩
    · have := HX.out k hk
      show k ≠ w.heap.size + 2
      omega
    · show CM _ _ _ _ (tally 0 (List.replicate S 0) (firsts (pre ++ [(L, A, c)]))) _ _
      rw [HNX.out, HU.out]
      exact hM.set (by omega) (by omega) j _
  case done =>
    rintro D ys X V hD hys ⟨hX, hM⟩ hK
    have hM' := hM
    rw [show firsts ys = allF W H from hys] at hM'
    have cc := hM.c
    have hlT : (tally 0 (List.replicate S 0) (allF W H)).length = S := by rw [tally_len, List.length_replicate]
    have HLT := Lib.hid hlT
    clear hlT
    gi_wp2
    refine ⟨by simp, .inl ⟨_, _, rfl, run_takeDeferred hK, ?_⟩⟩
    refine ⟨.tuple #[.slice (some ⟨w.heap.size + 2, 0, none⟩) S S, .bool true], by simp [results, Try.f62, go_sem], ?_⟩
    refine RetInts.mk HLT.out.symm (own_of_block hM'.own (fun k hk => by cases hk; exact World.putObj_heap_other (by dsimp only; omega))) (hM'.b.trans (belowK_b (w := w) (Nat.le_refl _) V D _ _ (by omega) hK rfl rfl))
  case stop =>
    intro D pre V _ _ h
    exact h.elim

theorem implBy_any (W H : Int) (w : World) : Calls Try.prog 62 #[.int .i64 W, .int .i64 H] w (RetInts w (byF W H) (okF W H)) := by
  cases hok : okF W H with
  | true =>
    have h := okF_iff.1 hok
    obtain ⟨m, rfl⟩ := Int.eq_ofNat_of_zero_le (show 0 ≤ W by omega)
    obtain ⟨n, rfl⟩ := Int.eq_ofNat_of_zero_le (show 0 ≤ H by omega)
    have := implBy_yes m n (by omega) (by omega) w
    unfold byF
    rw [if_pos hok]
    exact this
  | false =>
    have e : byF W H = [] := by unfold byF; rw [if_neg (by rw [hok]; decide)]
    rw [e]
    go_enter Try.func62, Try.ntmps62
    go_wp2_with fail
    refine (counted_no W H hok w).mono ?_
    rintro e w' ⟨⟨v, rfl⟩, hb⟩
    go_wp2_with fail
    go_ret2
    exact RetInts.none_ hb
end Go.Proofs.Ytdpbjmdgjhleeaa
