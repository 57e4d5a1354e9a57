/- Fo, Fp, Fn, Fs: texts in one. -/
import Derived.Test.YtebnekicbcdnaaaRfx
import Derived.Test.YtebnekicbcdnaaaFf
import Derived.Test.YtebnekicbcdnaaaCvd
import Derived.Test.YtebnekicbcdnaaaCutOfI
import Derived.Test.YtebnekicbcdnaaaLast
import Derived.Shelf.RegionOpen
import Derived.TacticsInMore
import Derived.LoopNIn
import Derived.LoopIn
import Derived.Deep.DeepCutAuto
import Derived.Test.YtebnekicbcdnaaaRfz
set_option linter.all false
namespace Go.Proofs.Ytebnekicbcdnaaa
open Go.RowKit Go.Shelf
attribute [local go_sem] Oper.semAt_some

/-- What the loop holds, and where the iterator's blocks lie. -/
structure JB (J : (Nat → Prop) → List CV → World → Prop) (B : Nat) (X : Nat → Prop) (s : List CV) (W : World) : Prop where
  j : J X s W
  x : ∀ k, X k → B ≤ k ∧ k < W.heap.size
  b : B ≤ W.heap.size
theorem JB.grow {J : (Nat → Prop) → List CV → World → Prop} {B : Nat} {X : Nat → Prop} {s : List CV} {A C : World} {row : Option Nat} (h : JB J B X s A) (hJ : AbX J) (hg : A.grownBy C row) (hr : ∀ r, row = some r → X r) : JB J B (newX X A C) s C :=
  ⟨hJ.grow _ _ _ _ _ h.j hg hr, fun k hk => by
    rcases hk with hk | hk
    · have := h.x k hk; have := hg.size; omega
    · have := h.b; omega, by have := h.b; have := hg.size; omega⟩
theorem JB.less {J : (Nat → Prop) → List CV → World → Prop} {B : Nat} {X X' : Nat → Prop} {s : List CV} {A : World} (h : JB J B X s A) (hJ : AbX J) (hx : ∀ k, X' k → X k) : JB J B X' s A := ⟨hJ.less _ _ _ _ h.j hx, fun k hk => h.x k (hx k hk), h.b⟩
theorem grown_belowF {A C : World} (h : Below A.heap.size A C) : A.grownBy C none := ⟨h.os, h.tape, h.output, h.size, fun k hk _ => h.block k hk⟩
theorem grown_put (A : World) (p : Addr) (v : Value) : A.grownBy (A.setCell p v) (some p.block) := put_grown A p v

/-- What comes of filling on. -/
def FillPost (J Jx : (Nat → Prop) → List CV → World → Prop) (B : Nat) (X : Nat → Prop) (pre : List CV) (L : List Sq) (A : Option Addr) (n c : Nat) (R : List (List Sq)) (W : World) (e : Ending) (W' : World) : Prop :=
  (e = .returned (.bool true) ∧ ∃ (X' : Nat → Prop) (ys : List CV), (∀ k, X k → X' k) ∧ ys.map (·.1) = R.map (L ++ ·) ∧ JB J B X' (pre ++ ys) W' ∧ W.heap.size ≤ W'.heap.size ∧
    (∀ k, X k → some k ≠ (Value.slice A n c).ownBlock → W'.heap[k]? = W.heap[k]?) ∧ W'.ownsRow B 96 3 (.slice A n c) n (flat L)) ∨
  (e = .returned (.bool false) ∧ ∃ (X' : Nat → Prop) (ys : List CV) (zs : List (List Sq)), ys.map (·.1) ++ zs = R.map (L ++ ·) ∧ Jx X' (pre ++ ys) W' ∧ W.heap.size ≤ W'.heap.size ∧ (∀ k, X k → some k ≠ (Value.slice A n c).ownBlock → W'.heap[k]? = W.heap[k]?))

theorem room_free {F : Fence} (h : F.depth = none) (k : Nat) : F.room k := fun d e => by rw [h] at e; cases e
theorem yield_any {F : Fence} (h : F.depth = none) {m : Nat} (m' : Nat) {P : Program} {l : Nat} {args : Array Value} {W : World} {R : Ending → World → Prop} (hy : YieldAt F m P l args W R) : YieldAt F m' P l args W R := by
  obtain ⟨fn, tmps, assign, body, h1, h2, h3⟩ := hy
  exact ⟨fn, tmps, assign, body, h1, h2, fun c cs _ => h3 c cs (room_free h _)⟩

/-- The call's two boxes: the cut under way, and the line. -/
structure FB (w : World) (W H : Int) (v : Value) (g : List Int) (wr : World) : Prop where
  c0 : wr.cell? ⟨w.heap.size, 0, none⟩ = some (.int .i64 W)
  c1 : wr.cell? ⟨w.heap.size, 1, none⟩ = some (.int .i64 H)
  c2 : wr.cell? ⟨w.heap.size, 2, none⟩ = some v
  cf : ∀ o, wr.frozen? ⟨w.heap.size, o, none⟩ = false
  l : Cols wr (w.heap.size + 1) g
  sz : w.heap.size + 2 ≤ wr.heap.size
theorem FB.keep {w wr w' : World} {W H : Int} {v : Value} {g : List Int} (h : FB w W H v g wr) (hs : wr.heap.size ≤ w'.heap.size) (h1 : w'.heap[w.heap.size]? = wr.heap[w.heap.size]?) (h2 : w'.heap[w.heap.size + 1]? = wr.heap[w.heap.size + 1]?) : FB w W H v g w' :=
  ⟨(World.cell?_of_block (a := ⟨w.heap.size, 0, none⟩) h1).trans h.c0, (World.cell?_of_block (a := ⟨w.heap.size, 1, none⟩) h1).trans h.c1, (World.cell?_of_block (a := ⟨w.heap.size, 2, none⟩) h1).trans h.c2, fun o => (World.frozen?_of_block (a := ⟨w.heap.size, o, none⟩) h1).trans (h.cf o),
    fun j u hu => (World.cell?_of_block (a := ⟨w.heap.size + 1, j, none⟩) h2).trans (h.l j u hu), Nat.le_trans h.sz hs⟩
theorem FB.below {w wr w' : World} {W H : Int} {v : Value} {g : List Int} (h : FB w W H v g wr) (hb : Below wr.heap.size wr w') : FB w W H v g w' := h.keep hb.size (hb.block _ (by have := h.sz; omega)) (hb.block _ (by have := h.sz; omega))
theorem FB.put {w wr : World} {W H : Int} {v : Value} {g : List Int} (h : FB w W H v g wr) (u : Value) : FB w W H u g (wr.setCell ⟨w.heap.size, 2, none⟩ u) := by
  have ne : ∀ o, o ≠ 2 → (⟨w.heap.size, 2, none⟩ : Addr) ≠ ⟨w.heap.size, o, none⟩ := fun o ho e => ho (Addr.mk.inj e).2.1.symm
  exact ⟨(World.cell?_setCell_other _ _ _ _ (ne 0 (by decide))).trans h.c0, (World.cell?_setCell_other _ _ _ _ (ne 1 (by decide))).trans h.c1, World.cell?_setCell_same _ _ _ h.c2, fun o => by rw [World.frozen?_setCell]; exact h.cf o,
    fun j q hq => (World.cell?_setCell_other _ _ _ _ (fun e => by have := (Addr.mk.inj e).1; omega)).trans (h.l j q hq), by simpa [World.setCell] using h.sz⟩
/-- The first free cell, asked of the line's box in whatever later world. -/
theorem free_later {W : Nat} {H : Int} {f : List Int} {x r b : Nat} {y : Int} {g : List Int} {W1 : World} (hf : Fl W H f) (hW1 : 1 ≤ W) (hW : W ≤ 13) (hH : H ≤ 500) (hm : FM f x y) (hr : RM f H x y r) (hg : pad f = g) (hl : Cols W1 b g) (hb : b + 1 ≤ W1.heap.size) (u : Later W1.heap.size W1) :
    Calls Try.prog 103 #[.slice (some ⟨b, 0, none⟩) W 13, .int .i64 H] u.val fun e w' => e = .returned (.tuple #[.int .i64 x, .int .i64 y, .int .i64 r]) ∧ u.val = w' :=
  firstFree_any W H f x r y hf hW1 (by omega) hH hm hr b 13 u.val (Nat.lt_of_lt_of_le (by omega) u.ok.size) (fun j v hj => (u.ok.cell (p := ⟨b, j, none⟩) (by show b < _; omega)).trans (hl j v (by rw [← hg, pad_get (List.getElem?_eq_some_iff.1 hj).1]; exact hj)))

end Go.Proofs.Ytebnekicbcdnaaa
namespace Go.Proofs.Ytebnekicbcdnaaa
open Go.RowKit Go.Shelf

section
variable {P : Program}
theorem app_run2 {w : World} (base : Nat) (t ty e : TypeId) (i : TypeInfo) (z : Value) (size bytes : Nat) (ht : P.underlying t = some (.slice e)) (hi : P.info? e = some i) (hz : i.zero = some z)
    (hsize : i.size = size) (hby : i.bytes = bytes) (hzs : z.cells.size = size) (hsz : 0 < size) {A : Option Addr} {n k : Nat} {xs : List Value} (hown : w.ownsRow base e size (.slice A n k) n xs)
    {ad : Addr} {m c : Nat} {news : List Value} (hm : 0 < m) (hl : news.length = m * size) (hc : ∀ j u, news[j]? = some u → w.cell? (ad.add j) = some u) (h1 : ∀ u ∈ news, u.oneCell' = true) (h63 : n + m ≤ maxLen) (hbytes : (n + m) * bytes ≤ 140737488355328) (hbase : base ≤ w.heap.size) :
    ∃ A' k' w', (Builtin.append_ #[t, t] ty #[.slice A n k, .slice (some ad) m c]).run P w = .ok (.slice A' (n + m) k') w' ∧ w'.ownsRow base e size (.slice A' (n + m) k') (n + m) (xs ++ news) ∧
      ((A' = A ∧ k' = k ∧ w.grownBy w' (Value.slice A n k).ownBlock) ∨ ((Value.slice A' (n + m) k').ownBlock = some w.heap.size ∧ w.grownBy w' none)) := by
  obtain ⟨v', w', hrun, ho, hg, hq, hb⟩ := run_append_own_at (P := P) w base t ty e i z size bytes ht hi hz hsize hby hzs hsz _ n xs hown ad m c news hl hc h1 h63 hbytes hbase
  obtain ⟨A', k', rfl⟩ := own_val ho
  rcases hown.2 with ⟨hv, h0⟩ | ⟨g, cap, cur, hv, hbg, hg', hnc, hcm, hcs, htake⟩
  · cases hv
    refine ⟨A', k', w', hrun, ho, .inr ⟨?_, hg⟩⟩
    rcases hb with hb | hb
    · rcases ho.2 with ⟨hv, h0⟩ | ⟨g, cap, cur, hv, _⟩
      · omega
      · rw [hv] at hb; cases hb
    · exact hb
  · cases hv
    by_cases hroom : n + m ≤ k
    · obtain ⟨w2, hr2, ho2, hg2⟩ := run_append_fits (P := P) w base t ty e i size ht hi hsize g n k xs hown ad m c news hl hc h1 hroom
      exact ⟨_, _, w2, hr2, ho2, .inl ⟨rfl, rfl, hg2⟩⟩
    · subst hsize
      subst hby
      have hsmall : n + m ≤ 9223372036854775807 := by simp only [maxLen] at h63; omega
      have hr := run_append_grow (P := P) w t ty e i z ht hi hz ⟨g, 0, none⟩ n k xs hown.1 (hown.cells (g := g) rfl) ad m c news hl hc (by omega) (by omega) (growslice_fits (by omega) hbytes)
      rw [hrun] at hr
      injection hr with e1 e2
      refine ⟨A', k', w', hrun, ho, .inr ⟨?_, ?_⟩⟩
      · rw [e1]; rfl
      · rw [e2]; exact ⟨rfl, rfl, rfl, by simp, fun k hk _ => heap_alloc_old w.drew _ k hk⟩
theorem app_list2 {w : World} {ops : Array Oper} {rest : List Oper} {o : Oper} {a : Act} {Q : Exit → Act → World → Prop} (hgd : o.guard = none) (s x : Operand) (t : TypeId)
    (ho : o.op = .call { callee := .builtin .append, args := #[s, x], argTypes := #[t, t] })
    (base : Nat) (e : TypeId) (i : TypeInfo) (z : Value) (size bytes : Nat) (ht : P.underlying t = some (.slice e)) (hi : P.info? e = some i) (hz : i.zero = some z)
    (hsize : i.size = size) (hby : i.bytes = bytes) (hzs : z.cells.size = size) (hsz : 0 < size) (A : Option Addr) (n k : Nat) (xs : List Value) (hs : a.eval s = .slice A n k) (hown : w.ownsRow base e size (.slice A n k) n xs)
    (ad : Addr) (m c : Nat) (news : List Value) (hm : 0 < m) (hx : a.eval x = .slice (some ad) m c) (hl : news.length = m * size) (hc : ∀ j u, news[j]? = some u → w.cell? (ad.add j) = some u) (h1 : ∀ u ∈ news, u.oneCell' = true) (h63 : n + m ≤ maxLen) (hbytes : (n + m) * bytes ≤ 140737488355328) (hbase : base ≤ w.heap.size)
    (h : ∀ A' k' w', w'.ownsRow base e size (.slice A' (n + m) k') (n + m) (xs ++ news) → ((A' = A ∧ k' = k ∧ w.grownBy w' (Value.slice A n k).ownBlock) ∨ ((Value.slice A' (n + m) k').ownBlock = some w.heap.size ∧ w.grownBy w' none)) → wpList P ops Q rest (a.put o.dst (.slice A' (n + m) k')) w') : wpList P ops Q (o :: rest) a w := by
  refine wpList_plain hgd fun K hK => ?_
  obtain ⟨A', k', w', hrun, h2, h3⟩ := app_run2 (P := P) (w := w) base t o.type e i z size bytes ht hi hz hsize hby hzs hsz hown hm hl hc h1 h63 hbytes hbase
  unfold Oper.wp execOp
  simp only [ho, resolve, invoke, builtin, Sem.run_bind, Sem.run_pure, Result.andThen_ok, List.map_toArray, List.map_cons, List.map_nil, hs, hx]
  rw [hrun]
  exact hK _ _ (h A' k' w' h2 h3)
end

theorem ob_len {A : Option Addr} (n c m d : Nat) : (Value.slice A n c).ownBlock = (Value.slice A m d).ownBlock := by cases A <;> rfl
/-- The memory between two rounds of filling on. -/
structure FO (J : (Nat → Prop) → List CV → World → Prop) (B : Nat) (w : World) (X : Nat → Prop) (s : List CV) (L : List Sq) (A : Option Addr) (c : Nat) (W H : Int) (v : Value) (g : List Int) (Xr : Nat → Prop) (wr : World) : Prop where
  fb : FB w W H v g wr
  j : JB J B Xr s wr
  xx : ∀ k, X k → Xr k
  xn : Xr w.heap.size
  xm : Xr (w.heap.size + 1)
  own : wr.ownsRow B 96 3 (.slice A L.length c) L.length (flat L)
  kb : ∀ k, X k → some k ≠ (Value.slice A L.length c).ownBlock → wr.heap[k]? = w.heap[k]?
/-- What the append has done: it has gone on in the same block, or laid a new one. -/
def AppC (A : Option Addr) (n c : Nat) (A6 : Option Addr) (c6 : Nat) (wt w6 : World) : Prop :=
  (A6 = A ∧ c6 = c ∧ wt.grownBy w6 (Value.slice A n c).ownBlock) ∨ ((Value.slice A6 (n + 1) c6).ownBlock = some wt.heap.size ∧ wt.grownBy w6 none)
variable {J Jx : (Nat → Prop) → List CV → World → Prop} {B : Nat} {w wr wt w6 w8 W9 : World} {X Xr : Nat → Prop} {s : List CV} {L : List Sq} {A A6 : Option Addr} {c c6 : Nat} {W H : Int} {v : Value} {g : List Int} {q : Sq}
theorem AppC.block (hc : AppC A L.length c A6 c6 wt w6) {k : Nat} (hk : k < wt.heap.size) (hne : some k ≠ (Value.slice A L.length c).ownBlock) : w6.heap[k]? = wt.heap[k]? := by
  rcases hc with ⟨_, _, h⟩ | ⟨_, h⟩
  · exact h.block k hk hne
  · exact h.block k hk (by simp)
theorem AppC.size (hc : AppC A L.length c A6 c6 wt w6) : wt.heap.size ≤ w6.heap.size := by
  rcases hc with ⟨_, _, h⟩ | ⟨_, h⟩ <;> exact h.size
/-- The round's square has been appended and stored. -/
structure FP (J : (Nat → Prop) → List CV → World → Prop) (B : Nat) (w wr wt w6 : World) (s : List CV) (L : List Sq) (A : Option Addr) (c : Nat) (q : Sq) (A6 : Option Addr) (c6 : Nat) (W H : Int) (g : List Int) (Xr X7 : Nat → Prop) (w7 : World) : Prop where
  fb : FB w W H (.slice A6 (L.length + 1) c6) g w7
  j : JB J B X7 s w7
  xr : ∀ k, Xr k → X7 k
  own : w7.ownsRow B 96 3 (.slice A6 (L.length + 1) c6) (L.length + 1) (flat (L ++ [q]))
  xo : ∀ b, (Value.slice A6 (L.length + 1) c6).ownBlock = some b → X7 b ∧ b ≠ w.heap.size ∧ b ≠ w.heap.size + 1
  kr : ∀ k, Xr k → some k ≠ (Value.slice A L.length c).ownBlock → k ≠ w.heap.size → w7.heap[k]? = wr.heap[k]?
  kn : (Value.slice A6 (L.length + 1) c6).ownBlock = some wt.heap.size → ∀ k, Xr k → k ≠ w.heap.size → w7.heap[k]? = wr.heap[k]?
  kt : ∀ k, wr.heap.size ≤ k → k < wt.heap.size → w7.heap[k]? = wt.heap[k]?
  sz : wr.heap.size ≤ w7.heap.size
  xt : ∀ k, wr.heap.size ≤ k → k < wt.heap.size → X7 k ∧ some k ≠ (Value.slice A6 (L.length + 1) c6).ownBlock
theorem FO.push (h : FO J B w X s L A c W H v g Xr wr) (hJ : AbX J) (hA : ∀ b, (Value.slice A L.length c).ownBlock = some b → X b) (hX : ∀ k, X k → k < w.heap.size) (hb : Below wr.heap.size wr wt)
    (ho : w6.ownsRow B 96 3 (.slice A6 (L.length + 1) c6) (L.length + 1) (flat L ++ [.int .i64 q.x, .int .i64 q.y, .int .i64 q.d])) (hc : AppC A L.length c A6 c6 wt w6) :
    ∃ X7, FP J B w wr wt w6 s L A c q A6 c6 W H g Xr X7 (w6.setCell ⟨w.heap.size, 2, none⟩ (.slice A6 (L.length + 1) c6)) := by
  have hsz := h.fb.sz
  have hs1 := hb.size
  have hs2 := hc.size
  have hne : ∀ k, w.heap.size ≤ k → some k ≠ (Value.slice A L.length c).ownBlock := fun k hk e => by have := hX k (hA k e.symm); omega
  have jt := h.j.grow hJ (grown_belowF hb) (fun r e => by cases e)
  have j6 : ∃ X6, (∀ k, newX Xr wr wt k → X6 k) ∧ JB J B X6 s w6 ∧ (∀ b, (Value.slice A6 (L.length + 1) c6).ownBlock = some b → X6 b) := by
    rcases hc with ⟨rfl, rfl, hg⟩ | ⟨hv, hg⟩
    · exact ⟨_, fun k hk => .inl hk, jt.grow hJ hg (fun r e => .inl (h.xx r (hA r e))), fun b hb => .inl (.inl (h.xx b (hA b ((ob_len _ _ _ _).trans hb))))⟩
    · refine ⟨_, fun k hk => .inl hk, jt.grow hJ hg (fun r e => by cases e), fun b hb => .inr ?_⟩
      have := (ho.lt b hb).2
      rw [hv] at hb; cases hb
      exact ⟨Nat.le_refl _, this⟩
  obtain ⟨X6, x1, j6, x2⟩ := j6
  have f6 : FB w W H v g w6 := (h.fb.below hb).keep hs2 (hc.block (by omega) (hne _ (Nat.le_refl _))) (hc.block (by omega) (hne _ (by omega)))
  have g7 := grown_put w6 ⟨w.heap.size, 2, none⟩ (.slice A6 (L.length + 1) c6)
  have hob : ∀ b, (Value.slice A6 (L.length + 1) c6).ownBlock = some b → b ≠ w.heap.size ∧ b ≠ w.heap.size + 1 := fun b hb' => by
    rcases hc with ⟨rfl, rfl, hg⟩ | ⟨hv, hg⟩
    · have := hX b (hA b ((ob_len _ _ _ _).trans hb')); omega
    · rw [hv] at hb'; cases hb'; omega
  refine ⟨_, f6.put _, j6.grow hJ g7 (fun r e => by cases e; exact x1 _ (.inl h.xn)), fun k hk => .inl (x1 k (.inl hk)), ?_, fun b hb => ⟨.inl (x2 b hb), hob b hb⟩, fun k hk hk1 hk2 => ?_, fun hv k hk hk2 => ?_, fun k hk1 hk2 => ?_, ?_, fun k hk1 hk2 => ?_⟩
  · refine own_of_block (A := w6) ?_ (fun k hk => g7.block k (ho.lt k hk).2 (fun e => (hob k hk).1 (by cases e; rfl)))
    rw [flat_app]; exact ho
  · have := (h.j.x k hk).2
    exact (g7.block k (by omega) (fun e => hk2 (by cases e; rfl))).trans ((hc.block (by omega) hk1).trans (hb.block k this))
  · have := (h.j.x k hk).2
    refine (g7.block k (by omega) (fun e => hk2 (by cases e; rfl))).trans (Eq.trans ?_ (hb.block k this))
    rcases hc with ⟨rfl, rfl, hg⟩ | ⟨_, hg⟩
    · have := hX _ (hA _ ((ob_len _ _ _ _).trans hv)); omega
    · exact hg.block k (by omega) (by simp)
  · exact (g7.block k (by omega) (fun e => by injection e with e'; dsimp only at e'; omega)).trans (hc.block hk2 (hne k (by omega)))
  · have := g7.size; omega
  · refine ⟨.inl (x1 k (.inr ⟨hk1, hk2⟩)), fun e => ?_⟩
    rcases hc with ⟨rfl, rfl, hg⟩ | ⟨hv, hg⟩
    · have := hX k (hA k ((ob_len _ _ _ _).trans e.symm)); omega
    · rw [hv] at e; cases e; omega
theorem FO.kept {X7 X8 : Nat → Prop} {w7 : World} (h : FO J B w X s L A c W H v g Xr wr) (hA : ∀ b, (Value.slice A L.length c).ownBlock = some b → X b) (hX : ∀ k, X k → k < w.heap.size)
    (hc : AppC A L.length c A6 c6 wt w6) (hs : wr.heap.size ≤ wt.heap.size) (p : FP J B w wr wt w6 s L A c q A6 c6 W H g Xr X7 w7) (hb : Below w7.heap.size w7 w8) (h78 : ∀ k, X7 k → X8 k)
    (k9 : ∀ k, X8 k → some k ≠ (Value.slice A6 (L.length + 1) c6).ownBlock → W9.heap[k]? = w8.heap[k]?) : ∀ k, X k → some k ≠ (Value.slice A L.length c).ownBlock → W9.heap[k]? = w.heap[k]? := fun k hk h1 => by
  have hx := h.xx k hk
  have o6 : some k ≠ (Value.slice A6 (L.length + 1) c6).ownBlock := fun e => by
    rcases hc with ⟨rfl, rfl, _⟩ | ⟨hv, _⟩
    · exact h1 (e.trans (ob_len _ _ _ _))
    · rw [hv] at e; cases e; have := (h.j.x _ hx).2; omega
  exact ((k9 k (h78 k (p.xr k hx)) o6).trans ((hb.block k (p.j.x k (p.xr k hx)).2).trans (p.kr k hx h1 (fun e => by have := hX k hk; omega)))).trans (h.kb k hk h1)
theorem FO.back {X7 X8 X9 : Nat → Prop} {s9 : List CV} {w7 : World} (h : FO J B w X s L A c W H v g Xr wr) (hA : ∀ b, (Value.slice A L.length c).ownBlock = some b → X b) (hX : ∀ k, X k → k < w.heap.size)
    (hc : AppC A L.length c A6 c6 wt w6) (hs : wr.heap.size ≤ wt.heap.size) (p : FP J B w wr wt w6 s L A c q A6 c6 W H g Xr X7 w7) (hb : Below w7.heap.size w7 w8) (h78 : ∀ k, X7 k → X8 k) (h89 : ∀ k, X8 k → X9 k)
    (j9 : JB J B X9 s9 W9) (hs9 : w8.heap.size ≤ W9.heap.size) (k9 : ∀ k, X8 k → some k ≠ (Value.slice A6 (L.length + 1) c6).ownBlock → W9.heap[k]? = w8.heap[k]?)
    (ho : W9.ownsRow B 96 3 (.slice A6 (L.length + 1) c6) (L.length + 1) (flat (L ++ [q]))) :
    FO J B w X s9 L A c W H (.slice A6 (L.length + 1) c6) g X9 W9 := by
  have hsz := h.fb.sz
  have hs7 := p.fb.sz
  have up : ∀ k, Xr k → X9 k := fun k hk => h89 k (h78 k (p.xr k hk))
  have q8 : ∀ k, Xr k → k ≠ w.heap.size → some k ≠ (Value.slice A L.length c).ownBlock → some k ≠ (Value.slice A6 (L.length + 1) c6).ownBlock → W9.heap[k]? = wr.heap[k]? := fun k hk h1 h2 h3 =>
    (k9 k (h78 k (p.xr k hk)) h3).trans ((hb.block k (p.j.x k (p.xr k hk)).2).trans (p.kr k hk h2 h1))
  have o6 : ∀ k, Xr k → some k ≠ (Value.slice A L.length c).ownBlock → some k ≠ (Value.slice A6 (L.length + 1) c6).ownBlock := fun k hk h1 e => by
    rcases hc with ⟨rfl, rfl, _⟩ | ⟨hv, _⟩
    · exact h1 (e.trans (ob_len _ _ _ _))
    · rw [hv] at e; cases e; have := (h.j.x _ hk).2; omega
  refine ⟨(p.fb.below hb).keep hs9 (k9 _ (h78 _ (p.xr _ h.xn)) (fun e => (p.xo _ e.symm).2.1 rfl)) (k9 _ (h78 _ (p.xr _ h.xm)) (fun e => (p.xo _ e.symm).2.2 rfl)), j9, fun k hk => up k (h.xx k hk), up _ h.xn, up _ h.xm, ?_, fun k hk h1 => ?_⟩
  · rcases hc with ⟨rfl, rfl, _⟩ | ⟨hv, _⟩
    · rw [flat_app] at ho
      exact own_pop ho (by rw [flat_len])
    · refine own_of_block h.own (fun k hk => ?_)
      have hx := h.xx k (hA k hk)
      have hl := hX k (hA k hk)
      have hn : some k ≠ (Value.slice A6 (L.length + 1) c6).ownBlock := fun e => by rw [hv] at e; cases e; omega
      refine (k9 k (h78 k (p.xr k hx)) hn).trans ((hb.block k (p.j.x k (p.xr k hx)).2).trans ?_)
      exact p.kn hv k hx (by omega)
  · exact (q8 k (h.xx k hk) (fun e => by have := hX k hk; omega) h1 (o6 k (h.xx k hk) h1)).trans (h.kb k hk h1)
end Go.Proofs.Ytebnekicbcdnaaa
namespace Go.Proofs.Ytebnekicbcdnaaa
open Go.RowKit Go.Shelf

theorem new3F (w : World) (o : Obj) (a b c : Value) (t : TypeId) : ∀ j u, [a, b, c][j]? = some u → ((w.alloc o).alloc (.cells #[a, b, c] t)).cell? ((⟨w.heap.size + 1, 0, none⟩ : Addr).add j) = some u := by
  have h := new3 (w.alloc o) a b c t
  simpa using h
theorem split_range (r i : Nat) (hi : i < r) (g : Nat → List (List Sq)) : ∃ Z, (List.range r).flatMap g = (List.range i).flatMap g ++ g i ++ Z := by
  obtain ⟨d, rfl⟩ : ∃ d, r = i + 1 + d := ⟨r - (i + 1), by omega⟩
  induction d with
  | zero => exact ⟨[], by rw [Nat.add_zero, flatMap_range_succ, List.append_nil]⟩
  | succ d ih =>
    obtain ⟨Z, hZ⟩ := ih (by omega)
    exact ⟨Z ++ g (i + 1 + d), by rw [show i + 1 + (d + 1) = (i + 1 + d) + 1 by omega, flatMap_range_succ, hZ]; simp [List.append_assoc]⟩
theorem step_map (L : List Sq) (x : Nat) (y : Int) (H : Int) (k : Nat) (f : List Int) (i : Nat) : (stepF 6 H k f x y (fills 6 H) i).map (L ++ ·) = (fills 6 H k (liftF f x (i + 1) ((i + 1 : Nat) : Int))).map ((L ++ [⟨(x : Nat), y, ((i + 1 : Nat) : Int)⟩]) ++ ·) := by
  unfold stepF
  rw [List.map_map]
  refine List.map_congr_left fun M _ => ?_
  simp

theorem flat_range_le {α : Type} (g : Nat → List α) {i n : Nat} (h : i ≤ n) : ((List.range i).flatMap g).length ≤ ((List.range n).flatMap g).length := by
  induction n with
  | zero => obtain rfl : i = 0 := by omega
            exact Nat.le_refl _
  | succ n ih =>
    by_cases e : i = n + 1
    · subst e; exact Nat.le_refl _
    · rw [flatMap_range_succ, List.length_append]
      have := ih (by omega)
      omega
end Go.Proofs.Ytebnekicbcdnaaa
namespace Go.Proofs.Ytebnekicbcdnaaa
open Go.RowKit Go.Shelf
attribute [local go_sem] Oper.semAt_some

/-- All cuts of a width and a height, in their order. -/
noncomputable def allF (W H : Nat) : List (List Sq) := fills 6 H (W * H) (List.replicate W 0)
theorem sum_zeros (n : Nat) : (List.replicate n (0 : Int)).sum = 0 := by induction n with | zero => rfl | succ n ih => simp [List.replicate_succ]
theorem free_start (W H : Nat) : free W H (List.replicate W 0) = W * H := by
  unfold free
  rw [sum_zeros]
  have : ((W : Int) * (H : Int)) = ((W * H : Nat) : Int) := by simp
  omega
theorem pad_zeros {W : Nat} (h : W ≤ 13) : arr (pad (List.replicate W 0)) = .agg #[.int .i64 0, .int .i64 0, .int .i64 0, .int .i64 0, .int .i64 0, .int .i64 0, .int .i64 0, .int .i64 0, .int .i64 0, .int .i64 0, .int .i64 0, .int .i64 0, .int .i64 0] := by
  have e : pad (List.replicate W 0) = List.replicate 13 0 := by
    unfold pad
    rw [List.length_replicate, List.replicate_append_replicate]
    congr 1; omega
  rw [e]; rfl

end Go.Proofs.Ytebnekicbcdnaaa
