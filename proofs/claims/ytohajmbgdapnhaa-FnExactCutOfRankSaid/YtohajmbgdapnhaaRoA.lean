/- Rfy, Ro: texts in one. -/
import Derived.Test.YtohajmbgdapnhaaRfx
import Derived.Test.YtohajmbgdapnhaaLsA
import Derived.Test.YtohajmbgdapnhaaCtlA
set_option linter.all false
namespace Go.Proofs.Ytohajmbgdapnhaa
open Go.RowKit Go.Shelf
variable {F : Fence} {n : Nat} {P : Program}

/-- How a round's body may be left. -/
def postY {α : Type} (B : Nat) (I : (Nat → Prop) → List α → World → Prop) (Ix : Code → (Nat → Prop) → List α → World → Prop) (X : Nat → Prop) (xs : List α) (W : World) : Exit → Act → World → Prop
  | .normal, _, W' => KeepsFrom B W W' ∧ KeepX X W W' ∧ I X xs W'
  | .ret, _, W' => KeepsFrom B W W' ∧ KeepX X W W' ∧ Ix .ret X xs W'
  | _, _, _ => False

theorem wpIn_rangeFunc_y {α : Type} {g : Operand} {ps : Array Tmp} {assign body : Code} {Q : Exit → Act → World → Prop} {a : Act} {w : World}
    (hro : F.round = none) (h1 : 1 ≤ n) {gf : Nat} {lb : Array Value} (hg : a.eval g = .func (.func gf) #[] lb) (hFg : F.fn gf) (eg : ∀ args w, (callFunc gf args).run P w = .ok (.enter gf args) w)
    {encs : α → Array Value} {Ok : (Nat → Prop) → α → World → Prop} {S Sp : List α → Prop} {w0 : World} (hseq : SeqX F (n - 1) P gf lb encs Ok S Sp w0)
    (hOk : ∀ X x A k o o', Ok X x A → A.heap[k]? = some o → o.isCells = false → Ok X x (A.putObj k o')) (hb0 : Below w0.heap.size w0 w) (hps : ∀ x, (encs x).size = ps.size)
    (I : (Nat → Prop) → List α → World → Prop) (Ix : Code → (Nat → Prop) → List α → World → Prop) (hI : OwnX w.heap.size I) (hIx : OwnX (β := List α) w.heap.size (Ix .ret)) (h0 : I (fun _ => False) [] w) (Ax : α → Act → World → Prop) (hAx : ∀ x a' A k o o', Ax x a' A → A.heap[k]? = some o → o.isCells = false → Ax x a' (A.putObj k o'))
    (hassign : ∀ (l : Nat) (X : Nat → Prop) (pre : List α) (x : α) (W : World) (K : Act → World → Prop), I X pre W → Ok X x W → (∀ k, X k → w.heap.size + 1 < k ∧ k < W.heap.size) → w.heap.size + 1 < W.heap.size →
      (∀ a' W', KeepsFrom w.heap.size W W' → KeepX X W W' → I X pre W' → Ok X x W' → Ax x a' W' → K a' W') →
      assign.wpIn (F.inRound l) (n - 1 - 1) P (Exit.then K (fun _ _ _ => False)) { tmps := (ps.zip (encs x)).foldl (fun t (p, v) => t.setIfInBounds p v) a.tmps, defers := [] } W)
    (hbody : ∀ (l : Nat) (X : Nat → Prop) (pre : List α) (x : α) (a' : Act) (W : World), I X pre W → Ok X x W → Ax x a' W → (∀ k, X k → w.heap.size + 1 < k ∧ k < W.heap.size) → w.heap.size + 1 < W.heap.size → body.wpIn (F.inRound l) (n - 1 - 1) P (postY w.heap.size I Ix X (pre ++ [x]) W) a' W)
    (hdone : ∀ (D : Nat) (xs : List α) (X : Nat → Prop) (W : World), w.heap.size ≤ D → S xs → I X xs W → W.heap[D]? = some (.deferred (some [])) → Q .normal { a with defers := { target := .collected D, args := #[] } :: a.defers } W)
    (hstop : ∀ (D : Nat) (pre : List α) (X : Nat → Prop) (W : World), w.heap.size ≤ D → Sp pre → Ix .ret X pre W → W.heap[D]? = some (.deferred (some [])) → Code.ret.wpIn F n P Q { a with defers := { target := .collected D, args := #[] } :: a.defers } W) :
    (Code.rangeFunc g ps assign body).wpIn F n P Q a w := by
  refine wpIn_rangeFunc fun fn hfn => ?_
  rw [hro]
  let rec' : LoopState → Option Code → Loop := fun st pe => { state := st, pending := pe, fn, tmps := a.tmps, params := ps, assign, body, defers := w.heap.size }
  obtain ⟨rc, hrc⟩ : ∃ rc, rc = rec' := ⟨_, rfl⟩
  obtain ⟨W1, hW1⟩ : ∃ W1, (w.alloc (.deferred (some []))).alloc (.loop (rc .ready none)) = W1 := ⟨_, rfl⟩
  have hs1 : W1.heap.size = w.heap.size + 2 := by rw [← hW1]; simp
  have hL1 : W1.heap[w.heap.size + 1]? = some (.loop (rc .ready none)) := by
    rw [← hW1]; have := World.alloc_heap_new (w.alloc (.deferred (some []))) (.loop (rc .ready none)); rwa [World.size_alloc] at this
  have hK1 : W1.heap[w.heap.size]? = some (.deferred (some [])) := by
    rw [← hW1]; exact (Below.heap_alloc _ _ _ (by simp)).trans (World.alloc_heap_new w _)
  have hI1 : I (fun _ => False) [] W1 := by
    have e1 := hI.less _ (fun _ => False) _ _ (hI.grow _ _ _ _ none h0 (World.grownBy_alloc w (.deferred (some [])) none) (Nat.le_refl _) (fun r e => by cases e)) (fun k h => h.elim)
    have e2 := hI.less _ (fun _ => False) _ _ (hI.grow _ _ _ _ none e1 (World.grownBy_alloc _ (.loop (rc .ready none)) none) (by simp) (fun r e => by cases e)) (fun k h => h.elim)
    rw [← hW1]; exact e2
  have hb1 : Below w0.heap.size w0 W1 := by
    rw [← hW1]; exact hb0.trans ((((Below.refl _ w).alloc (Nat.le_refl _) _).alloc (by simp) _).mono hb0.size)
  refine ⟨w.heap.size + 1, [{ target := .collected w.heap.size, args := #[] }], W1, { target := .fn (.func gf) lb, args := #[.func (.yield (w.heap.size + 1)) #[] #[]] }, W1, gf,
    #[.func (.yield (w.heap.size + 1)) #[] #[]] ++ lb, W1, ?_, ?_, ?_, ?_, fun _ => h1, ?_⟩
  · rw [← hW1, hrc]; exact run_enterLoop_outer _ _ _ _ _
  · simp only [resolve, hg]
    simp [go_sem]
  · intro f' hf'; simp [Target.leads] at hf'; subst hf'; exact hFg
  · simp [invoke, go_sem, eg]
  have ab : ∀ {X : Nat → Prop} {A B : World} {row : Option Nat} {k : Nat} {o : Obj}, (∀ k, X k → w.heap.size + 1 < k ∧ k < A.heap.size) → A.grownBy B row → (∀ r, row = some r → X r) → k ≤ w.heap.size + 1 → A.heap[k]? = some o → B.heap[k]? = some o := fun hX hg hr hk ho =>
    (hg.block _ (Array.getElem?_eq_some_iff.1 ho).1 (fun e => by have := hX _ (hr _ e.symm); omega)).trans ho
  have nx : ∀ {X : Nat → Prop} {A B : World} {row : Option Nat}, (∀ k, X k → w.heap.size + 1 < k ∧ k < A.heap.size) → A.grownBy B row → w.heap.size + 1 < A.heap.size → ∀ k, newX X A B k → w.heap.size + 1 < k ∧ k < B.heap.size := fun hX hg hA k hk => by
    rcases hk with hk | hk
    · have := hX k hk; have := hg.size; omega
    · omega
  refine (hseq (w.heap.size + 1)
    (fun X pre W => I X pre W ∧ (∀ k, X k → w.heap.size + 1 < k ∧ k < W.heap.size) ∧ W.heap[w.heap.size + 1]? = some (.loop (rc .ready none)) ∧ W.heap[w.heap.size]? = some (.deferred (some [])))
    (fun X pre W => Ix .ret X pre W ∧ (∀ k, X k → w.heap.size + 1 < k ∧ k < W.heap.size) ∧ W.heap[w.heap.size + 1]? = some (.loop (rc .done (some .ret))) ∧ W.heap[w.heap.size]? = some (.deferred (some [])))
    W1 hb1
    ⟨fun X s A B row ⟨h1, h2, h3, h4⟩ hg hr => ⟨hI.grow _ _ _ _ _ h1 hg (by have := (Array.getElem?_eq_some_iff.1 h4).1; omega) hr, nx h2 hg (Array.getElem?_eq_some_iff.1 h3).1, ab h2 hg hr (Nat.le_refl _) h3, ab h2 hg hr (by omega) h4⟩,
      fun X X' s A ⟨h1, h2, h3, h4⟩ hx => ⟨hI.less _ _ _ _ h1 hx, fun k hk => h2 k (hx k hk), h3, h4⟩⟩
    ⟨fun X s A B row ⟨h1, h2, h3, h4⟩ hg hr => ⟨hIx.grow X _ _ _ _ h1 hg (by have := (Array.getElem?_eq_some_iff.1 h4).1; omega) hr, nx h2 hg (Array.getElem?_eq_some_iff.1 h3).1, ab h2 hg hr (Nat.le_refl _) h3, ab h2 hg hr (by omega) h4⟩,
      fun X X' s A ⟨h1, h2, h3, h4⟩ hx => ⟨hIx.less _ _ _ _ h1 hx, fun k hk => h2 k (hx k hk), h3, h4⟩⟩
    ?_ ⟨hI1, fun k h => h.elim, hL1, hK1⟩).mono ?_
  · rintro X pre x W ⟨hi, hX, hl, hk⟩ hok hX2
    have hlt : w.heap.size + 1 < W.heap.size := (Array.getElem?_eq_some_iff.1 hl).1
    have hy := run_yield (P := P) (args := encs x) hl (by rw [hrc]; exact hps x)
    rw [hrc] at hy
    refine ⟨fn, _, assign, body, hy, roundIn_of_wpIn hfn (hassign _ X pre x W _ hi hok hX hlt ?_)⟩
    clear hy
    intro a' Wa hkf hkx hia hoka hax
    have hla := hkf.same _ _ (by omega) hl rfl
    have hka := hkf.same _ _ (Nat.le_refl _) hk rfl
    have hlta : w.heap.size + 1 < Wa.heap.size := (Array.getElem?_eq_some_iff.1 hla).1
    have hXa : ∀ k, X k → w.heap.size + 1 < k ∧ k < Wa.heap.size := fun k h => by have := hX k h; have := hkf.size; omega
    refine ⟨_, run_beginRound hla (by rw [hrc]), ?_⟩
    obtain ⟨V, hV⟩ : ∃ V, Wa.putObj (w.heap.size + 1) (.loop { rc .ready none with state := .busy }) = V := ⟨_, rfl⟩
    have sz : V.heap.size = Wa.heap.size := by rw [← hV]; simp
    have hl2 : V.heap[w.heap.size + 1]? = some (.loop { rc .ready none with state := .busy }) := by rw [← hV]; exact World.putObj_heap_same hlta
    have hk2 : V.heap[w.heap.size]? = some (.deferred (some [])) := by rw [← hV]; exact (World.putObj_heap_other (by omega)).trans hka
    have hiV : I X pre V := by rw [← hV]; exact hI.turn _ _ _ _ _ _ hia (by omega) hla rfl
    have hokV : Ok X x V := by rw [← hV]; exact hOk _ _ _ _ _ _ hoka hla rfl
    have haxV : Ax x a' V := by rw [← hV]; exact hAx _ _ _ _ _ _ hax hla rfl
    have hwV : KeepX X W V := hkx.trans (by rw [← hV]; exact ⟨by simp, fun k hk => World.putObj_heap_other (fun e => by have := hX k hk; omega)⟩)
    have hgo : (Wa.putObj (w.heap.size + 1) (.loop { rc .ready none with state := .busy })) = V := hV
    rw [hgo]
    have szV : W.heap.size ≤ V.heap.size := by have := hkf.size; omega
    refine wpIn_mono (hbody _ X pre x a' V hiV hokV haxV (fun k hk => by have := hXa k hk; omega) (by omega)) ?_
    have fin : ∀ (jump : Option Code) (W3 : World), KeepsFrom w.heap.size V W3 →
        (Instr.endRound (w.heap.size + 1) jump).run P W3 = .ok (.bool jump.isNone) (W3.putObj (w.heap.size + 1) (.loop (rc (if jump.isNone then .ready else .done) jump))) ∧
        W3.heap[w.heap.size + 1]? = some (.loop { rc .ready none with state := .busy }) ∧
        (W3.putObj (w.heap.size + 1) (.loop (rc (if jump.isNone then .ready else .done) jump))).heap[w.heap.size + 1]? = some (.loop (rc (if jump.isNone then .ready else .done) jump)) ∧
        (W3.putObj (w.heap.size + 1) (.loop (rc (if jump.isNone then .ready else .done) jump))).heap[w.heap.size]? = some (.deferred (some [])) := fun jump W3 hk3 => by
      have hl3 := hk3.same _ _ (by omega) hl2 rfl
      have e := run_endRound (P := P) jump hl3
      refine ⟨?_, hl3, World.putObj_heap_same (Array.getElem?_eq_some_iff.1 hl3).1, (World.putObj_heap_other (by omega)).trans (hk3.same _ _ (Nat.le_refl _) hk2 rfl)⟩
      rw [hrc] at e ⊢
      exact e
    rintro e a3 W3 hp
    cases e with
    | normal =>
      obtain ⟨hk3, hkp3, hi3⟩ := hp
      obtain ⟨hr, hl3, hl4, hk4⟩ := fin none W3 hk3
      refine ⟨_, _, hr, .inl ⟨rfl, ⟨hI.turn _ _ _ _ _ _ hi3 (by omega) hl3 rfl, fun k hk => by have := hX k hk; have := hk3.size; simp; omega, hl4, hk4⟩, hwV.trans (hkp3.trans ⟨by simp, fun k hk => World.putObj_heap_other (fun e => by have := hX k hk; omega)⟩)⟩⟩
    | ret =>
      obtain ⟨hk3, hkp3, hi3⟩ := hp
      obtain ⟨hr, hl3, hl4, hk4⟩ := fin (some .ret) W3 hk3
      exact ⟨_, _, hr, .inr ⟨rfl, ⟨hIx.turn X _ _ _ _ _ hi3 (by omega) hl3 rfl, fun k hk => by have := hX k hk; have := hk3.size; simp; omega, hl4, hk4⟩, hwV.trans (hkp3.trans ⟨by simp, fun k hk => World.putObj_heap_other (fun e => by have := hX k hk; omega)⟩)⟩⟩
    | exit id => exact hp.elim
    | goto t => exact hp.elim
    | panic ch => exact hp.elim
    | outgrown => exact hp.elim
  · rintro e W2 ⟨⟨v, rfl⟩, (⟨xs, X, hS, hi, hX, hl, hk⟩ | ⟨pre, X, hSp, hi, hX, hl, hk⟩)⟩
    · exact ⟨none, _, by have := run_endLoop (P := P) hl (by rw [hrc]; simp [rec']); rw [hrc] at this; exact this, hdone _ xs X _ (Nat.le_refl _) hS (hI.turn _ _ _ _ _ _ hi (by omega) hl rfl) ((World.putObj_heap_other (by omega)).trans hk)⟩
    · exact ⟨some .ret, _, by have := run_endLoop (P := P) hl (by rw [hrc]; simp [rec']); rw [hrc] at this; exact this, hstop _ pre X _ (Nat.le_refl _) hSp (hIx.turn X _ _ _ _ _ hi (by omega) hl rfl) ((World.putObj_heap_other (by omega)).trans hk)⟩

end Go.Proofs.Ytohajmbgdapnhaa
namespace Go.Proofs.Ytohajmbgdapnhaa
open Go.RowKit Go.Shelf
attribute [local go_sem] Oper.semAt_some

noncomputable def rkB (W H r : Int) : Bool := okL W H && decide (0 ≤ r ∧ r < ((allF W.toNat H.toNat).length : Int))
noncomputable def rkL (W H r : Int) : List Sq := if rkB W H r then ((allF W.toNat H.toNat)[r.toNat]?).getD [] else []
noncomputable def rkX (W H r z : Int) : Int := if rkB W H r then z else 0
theorem rk_no {W H r : Int} (h : rkB W H r = false) : rkL W H r = [] ∧ rkX W H r W = 0 ∧ rkX W H r H = 0 := by
  unfold rkL rkX
  rw [h]
  exact ⟨rfl, rfl, rfl⟩
theorem rk_yes {a b i : Nat} {L : List Sq} (hok : okL a b = true) (h : (allF a b)[i]? = some L) : rkB a b i = true ∧ rkL a b i = L ∧ rkX a b i a = a ∧ rkX a b i b = b := by
  have hi := (List.getElem?_eq_some_iff.1 h).1
  have e : rkB a b i = true := by
    unfold rkB
    rw [hok, Bool.true_and, decide_eq_true_iff]
    simp only [Int.toNat_natCast]
    omega
  refine ⟨e, ?_, ?_, ?_⟩
  · unfold rkL; rw [if_pos e]; simp only [Int.toNat_natCast]; rw [h]; rfl
  · unfold rkX; rw [if_pos e]
  · unfold rkX; rw [if_pos e]
/-- The call's boxes: the rank, the results, the counter. -/
structure RB (N P : Nat) (r m : Int) (w V : World) : Prop where
  r0 : V.cell? ⟨N, 0, none⟩ = some (.int .i64 r)
  c0 : V.cell? ⟨N + 1, 0, none⟩ = some (.int .i64 0)
  c1 : V.cell? ⟨N + 1, 1, none⟩ = some (.int .i64 0)
  c2 : V.cell? ⟨N + 1, 2, none⟩ = some (.slice none 0 0)
  b0 : V.cell? ⟨N + 2, 0, none⟩ = some (.bool false)
  p0 : V.cell? ⟨P, 0, none⟩ = some (.int .i64 m)
  cf : ∀ o, V.frozen? ⟨N + 1, o, none⟩ = false
  bf : ∀ o, V.frozen? ⟨N + 2, o, none⟩ = false
  pf : ∀ o, V.frozen? ⟨P, o, none⟩ = false
  lt : N + 2 < P
  b : Below N w V
theorem RB.keep {N P L : Nat} {r m : Int} {w A C : World} (h : RB N P r m w A) (hb : Below L A C) (hL : P < L) : RB N P r m w C := by
  have l := h.lt
  have q : ∀ {b o : Nat} {v : Value}, b < L → A.cell? ⟨b, o, none⟩ = some v → C.cell? ⟨b, o, none⟩ = some v := fun hb' h' => (hb.cell (p := ⟨_, _, none⟩) hb').trans h'
  exact ⟨q (by omega) h.r0, q (by omega) h.c0, q (by omega) h.c1, q (by omega) h.c2, q (by omega) h.b0, q hL h.p0, fun o => (hb.frozen (p := ⟨N + 1, o, none⟩) (by show N + 1 < L; omega)).trans (h.cf o),
    fun o => (hb.frozen (p := ⟨N + 2, o, none⟩) (by show N + 2 < L; omega)).trans (h.bf o), fun o => (hb.frozen (p := ⟨P, o, none⟩) hL).trans (h.pf o), l, h.b.trans (hb.mono (by omega))⟩
theorem RB.put {N P : Nat} {r m : Int} {w A : World} (h : RB N P r m w A) (v : Int) : RB N P r v w (A.setCell ⟨P, 0, none⟩ (.int .i64 v)) := by
  have l := h.lt
  have q : ∀ {b o : Nat} {u : Value}, b ≠ P → A.cell? ⟨b, o, none⟩ = some u → (A.setCell ⟨P, 0, none⟩ (.int .i64 v)).cell? ⟨b, o, none⟩ = some u := fun hb h' => (World.cell?_setCell_other _ _ _ _ (fun e => hb (Addr.mk.inj e).1.symm)).trans h'
  exact ⟨q (by omega) h.r0, q (by omega) h.c0, q (by omega) h.c1, q (by omega) h.c2, q (by omega) h.b0, World.cell?_setCell_same _ _ _ h.p0, fun o => by rw [World.frozen?_setCell]; exact h.cf o,
    fun o => by rw [World.frozen?_setCell]; exact h.bf o, fun o => by rw [World.frozen?_setCell]; exact h.pf o, l, h.b.setCell (p := ⟨P, 0, none⟩) (by show N ≤ P; omega) _⟩
/-- Left with the cut that was asked for. -/
def RX (N B Bo : Nat) (W H r : Int) (w : World) (X : Nat → Prop) (pre : List CV) (V : World) : Prop :=
  ∃ ps x, pre = ps ++ [x] ∧ wrap64 (ps.length : Int) = r ∧ (V.cell? ⟨N + 1, 0, none⟩ = some (.int .i64 W) ∧ V.cell? ⟨N + 1, 1, none⟩ = some (.int .i64 H) ∧ V.cell? ⟨N + 1, 2, none⟩ = some (.slice x.2.1 x.1.length x.2.2)) ∧
    V.cell? ⟨N + 2, 0, none⟩ = some (.bool true) ∧ OkC Bo X x V ∧ Below N w V ∧ (∀ k, X k → B ≤ k)
theorem okC_grow {B : Nat} {X : Nat → Prop} {x : CV} {A C : World} {row : Option Nat} (h : OkC B X x A) (hg : A.grownBy C row) (hr : ∀ r, row = some r → X r) : OkC B (newX X A C) x C :=
  ⟨own_of_block h.1 (fun k hk => hg.block k (h.1.lt k hk).2 (fun e => h.2 k hk (hr k e.symm))), fun b hb hx => by
    rcases hx with hx | hx
    · exact h.2 b hb hx
    · have := (h.1.lt b hb).2; omega⟩
theorem RX.own {N B Bo : Nat} {W H r : Int} {w : World} (hN : N + 2 < B) : OwnX B (RX N B Bo W H r w) := by
  refine ⟨fun X s A C row h hg hB hr => ?_, fun X s A k o o' h hB hk ho => ?_, fun X X' s A h hx => ?_⟩
  · obtain ⟨ps, x, e, hl, ⟨c0, c1, c2⟩, b0, hok, hb, hX⟩ := h
    have lt : ∀ {b : Nat} {v : Value} {o : Nat}, A.cell? ⟨b, o, none⟩ = some v → b < B → C.cell? ⟨b, o, none⟩ = some v := fun hc hbB => hg.cell hc (fun e => by have := hX _ (hr _ e.symm); dsimp only at this; omega)
    refine ⟨ps, x, e, hl, ⟨lt c0 (by omega), lt c1 (by omega), lt c2 (by omega)⟩, lt b0 (by omega), okC_grow hok hg hr, hb.grown hg (Nat.le_trans (by omega) hB) (fun j ej => by have := hX j (hr j ej); omega), fun k hk => ?_⟩
    rcases hk with hk | hk
    · exact hX k hk
    · omega
  · obtain ⟨ps, x, e, hl, ⟨c0, c1, c2⟩, b0, hok, hb, hX⟩ := h
    have q : ∀ {p : Addr} {v : Value}, A.cell? p = some v → (A.putObj k o').cell? p = some v := fun h => cell_kept h (grownBy_putObj' A k o') (fun r e => by cases e; exact ⟨o, hk, ho⟩)
    exact ⟨ps, x, e, hl, ⟨q c0, q c1, q c2⟩, q b0, okC_put hok hk ho, hb.grown (grownBy_putObj' A k o') (by have := (Array.getElem?_eq_some_iff.1 hk).1; omega) (fun j e => by cases e; omega), hX⟩
  · obtain ⟨ps, x, e, hl, hc, b0, hok, hb, hX⟩ := h
    exact ⟨ps, x, e, hl, hc, b0, ⟨hok.1, fun b hb hx' => hok.2 b hb (hx b hx')⟩, hb, fun k hk => hX k (hx k hk)⟩
theorem RB.out {N P : Nat} {r m : Int} {w V : World} (h : RB N P r m w V) (W H : Int) (A : Option Addr) (n c : Nat) (ok : Bool) :
    ((((((V.setCell ⟨N + 1, 0, none⟩ (.int .i64 W)).setCell ⟨N + 1, 1, none⟩ (.int .i64 H)).setCell ⟨N + 1, 2, none⟩ (.slice A n c)).setCell ⟨N + 2, 0, none⟩ (.bool ok)).cell? ⟨N + 1, 0, none⟩ = some (.int .i64 W) ∧ ((((V.setCell ⟨N + 1, 0, none⟩ (.int .i64 W)).setCell ⟨N + 1, 1, none⟩ (.int .i64 H)).setCell ⟨N + 1, 2, none⟩ (.slice A n c)).setCell ⟨N + 2, 0, none⟩ (.bool ok)).cell? ⟨N + 1, 1, none⟩ = some (.int .i64 H) ∧ ((((V.setCell ⟨N + 1, 0, none⟩ (.int .i64 W)).setCell ⟨N + 1, 1, none⟩ (.int .i64 H)).setCell ⟨N + 1, 2, none⟩ (.slice A n c)).setCell ⟨N + 2, 0, none⟩ (.bool ok)).cell? ⟨N + 1, 2, none⟩ = some (.slice A n c)) ∧
    ((((V.setCell ⟨N + 1, 0, none⟩ (.int .i64 W)).setCell ⟨N + 1, 1, none⟩ (.int .i64 H)).setCell ⟨N + 1, 2, none⟩ (.slice A n c)).setCell ⟨N + 2, 0, none⟩ (.bool ok)).cell? ⟨N + 2, 0, none⟩ = some (.bool ok)) ∧ (∀ k, k ≠ N + 1 → k ≠ N + 2 → ((((V.setCell ⟨N + 1, 0, none⟩ (.int .i64 W)).setCell ⟨N + 1, 1, none⟩ (.int .i64 H)).setCell ⟨N + 1, 2, none⟩ (.slice A n c)).setCell ⟨N + 2, 0, none⟩ (.bool ok)).heap[k]? = V.heap[k]?) ∧ Below N w ((((V.setCell ⟨N + 1, 0, none⟩ (.int .i64 W)).setCell ⟨N + 1, 1, none⟩ (.int .i64 H)).setCell ⟨N + 1, 2, none⟩ (.slice A n c)).setCell ⟨N + 2, 0, none⟩ (.bool ok)) := by
  have e0 : ∀ (Z : World) (v : Value) (o : Nat), (Z.setCell ⟨N + 2, 0, none⟩ v).cell? ⟨N + 1, o, none⟩ = Z.cell? ⟨N + 1, o, none⟩ := fun Z v o => World.cell?_setCell_other _ _ _ _ (fun e => by have := (Addr.mk.inj e).1; omega)
  have e1 : ∀ (Z : World) (v : Value) (o o' : Nat), o ≠ o' → (Z.setCell ⟨N + 1, o, none⟩ v).cell? ⟨N + 1, o', none⟩ = Z.cell? ⟨N + 1, o', none⟩ := fun Z v o o' ho => World.cell?_setCell_other _ _ _ _ (fun e => ho (Addr.mk.inj e).2.1)
  have e2 : ∀ (Z : World) (v : Value) (o : Nat), (Z.setCell ⟨N + 1, o, none⟩ v).cell? ⟨N + 2, 0, none⟩ = Z.cell? ⟨N + 2, 0, none⟩ := fun Z v o => World.cell?_setCell_other _ _ _ _ (fun e => by have := (Addr.mk.inj e).1; omega)
  have c0 := h.c0
  have c1 := h.c1
  have c2 := h.c2
  have b0 := h.b0
  refine ⟨⟨⟨?_, ?_, ?_⟩, ?_⟩, fun k h1 h2 => ?_, ?_⟩
  · rw [e0, e1 _ _ 2 0 (by decide), e1 _ _ 1 0 (by decide)]; exact World.cell?_setCell_same _ _ _ c0
  · rw [e0, e1 _ _ 2 1 (by decide)]; exact World.cell?_setCell_same _ _ _ ((e1 _ _ 0 1 (by decide)).trans c1)
  · rw [e0]; exact World.cell?_setCell_same _ _ _ ((e1 _ _ 1 2 (by decide)).trans ((e1 _ _ 0 2 (by decide)).trans c2))
  · exact World.cell?_setCell_same _ _ _ ((e2 _ _ 2).trans ((e2 _ _ 1).trans ((e2 _ _ 0).trans b0)))
  · exact (Below.heap_setCell _ _ _ k h2).trans ((Below.heap_setCell _ _ _ k h1).trans ((Below.heap_setCell _ _ _ k h1).trans (Below.heap_setCell _ _ _ k h1)))
  · exact (((h.b.setCell (p := ⟨N + 1, 0, none⟩) (by simp) _).setCell (p := ⟨N + 1, 1, none⟩) (by simp) _).setCell (p := ⟨N + 1, 2, none⟩) (by simp) _).setCell (p := ⟨N + 2, 0, none⟩) (by simp) _
set_option maxRecDepth 100000 in
set_option maxHeartbeats 16000000 in
theorem implOf_yes (W H : Nat) (r : Int) (hok : okL W H = true) (w : World) : Calls Try.prog 21 #[.int .i64 W, .int .i64 H, .int .i64 r] w (RetCut w (rkX W H r W) (rkX W H r H) (rkL W H r) (rkB W H r)) := by
  have hh := okL_nat.1 hok
  have hfew := allF_few hok
  obtain ⟨W0, hW0⟩ : ∃ W0, W0 = ((w.alloc (.cells #[.int .i64 r] 3)).alloc (.cells #[.int .i64 0, .int .i64 0, .slice none 0 0] 30)).alloc (.cells #[.bool false] 4) := ⟨_, rfl⟩
  have hz0 : W0.heap.size = w.heap.size + 3 := by rw [hW0]; simp
  have hB0 : Below w.heap.size w W0 := by rw [hW0]; exact (((Below.refl _ _).alloc (Nat.le_refl _) _).alloc (by simp) _).alloc (by simp; omega) _
  obtain ⟨W2, hW2⟩ : ∃ W2, W2 = (W0.alloc (.cells #[.int .i64 W] 3)).alloc (.cells #[.int .i64 H] 3) := ⟨_, rfl⟩
  have hz2 : W2.heap.size = w.heap.size + 5 := by rw [hW2]; simp; omega
  have hB2 : Below W0.heap.size W0 W2 := by rw [hW2]; exact ((Below.refl _ _).alloc (Nat.le_refl _) _).alloc (by simp) _
  have cw : W2.cell? ⟨w.heap.size + 3, 0, none⟩ = some (.int .i64 W) := by rw [← hz0, hW2, World.cell?_alloc_lt _ _ _ (by simp)]; simp [go_sem]
  have ch : W2.cell? ⟨w.heap.size + 4, 0, none⟩ = some (.int .i64 H) := by rw [show w.heap.size + 4 = (W0.alloc (.cells #[.int .i64 W] 3)).heap.size by simp; omega, hW2]; simp [go_sem]
  obtain ⟨W3, hW3⟩ : ∃ W3, W3 = W2.alloc (.cells #[.int .i64 0] 3) := ⟨_, rfl⟩
  have hz3 : W3.heap.size = w.heap.size + 6 := by rw [hW3]; simp; omega
  have hB3 : Below W2.heap.size W2 W3 := by rw [hW3]; exact (Below.refl _ _).alloc (Nat.le_refl _) _
  have hRB : RB w.heap.size (w.heap.size + 5) r 0 w W3 := by
    have hB03 : Below W0.heap.size W0 W3 := hB2.trans (hB3.mono hB2.size)
    have q : ∀ {b o : Nat} {v : Value}, b < W0.heap.size → W0.cell? ⟨b, o, none⟩ = some v → W3.cell? ⟨b, o, none⟩ = some v := fun hb' h' => (hB03.cell (p := ⟨_, _, none⟩) hb').trans h'
    refine ⟨q (by omega) ?_, q (by omega) ?_, q (by omega) ?_, q (by omega) ?_, q (by omega) ?_, ?_, fun o => (hB03.frozen (p := ⟨w.heap.size + 1, o, none⟩) (by show w.heap.size + 1 < _; omega)).trans ?_, fun o => (hB03.frozen (p := ⟨w.heap.size + 2, o, none⟩) (by show w.heap.size + 2 < _; omega)).trans ?_, fun o => ?_, by omega, hB0.trans (hB03.mono hB0.size)⟩
    · rw [hW0, World.cell?_alloc_lt _ _ _ (by simp; omega), World.cell?_alloc_lt _ _ _ (by simp)]; simp [go_sem]
    · rw [hW0, World.cell?_alloc_lt _ _ _ (by simp)]; simp [go_sem]
    · rw [hW0, World.cell?_alloc_lt _ _ _ (by simp)]; simp [go_sem]
    · rw [hW0, World.cell?_alloc_lt _ _ _ (by simp)]; simp [go_sem]
    · rw [hW0]; simp [go_sem]
    · rw [← hz2, hW3]; simp [go_sem]
    · have e : w.heap.size + 1 = (w.alloc (.cells #[.int .i64 r] 3)).heap.size := by simp
      rw [hW0, e]
      exact ((((Below.refl _ _).alloc (Nat.le_refl _) _) : Below ((w.alloc (.cells #[.int .i64 r] 3)).alloc (.cells #[.int .i64 0, .int .i64 0, .slice none 0 0] 30)).heap.size _ _).frozen (p := ⟨_, o, none⟩) (by show _ < _; simp)).trans (World.frozen?_alloc_at _ _ _ _ rfl)
    · rw [hW0]; exact World.frozen?_alloc_at _ _ _ _ (by simp)
    · rw [← hz2, hW3]; exact World.frozen?_alloc_at _ _ _ _ rfl
  have CC := listed_yes W H hok W0
  rw [← hW2, hz0] at CC
  have HOK := Lib.hid hok
  have hRB' : RB w.heap.size (w.heap.size + 5) r (wrap64 ((([] : List CV).length : Nat) : Int)) w W3 := by
    have e : wrap64 ((([] : List CV).length : Nat) : Int) = 0 := by simp [wrap64]
    rw [e]; exact hRB
  have HW2 := Lib.hid hW2
  have HFEW := Lib.hid hfew
  clear hfew hW2
  refine (callsIn_wide (n := 5)).1 ?_
  refine callsIn_of_wp_marks Try.func21 rfl trivial ?_ rfl
  simp only [Try.ntmps21, List.size_toArray, List.length_cons, List.length_nil, Nat.reduceAdd, Nat.reduceSub, Array.replicate_succ, Array.replicate_zero, List.push_toArray, List.append_toArray, List.nil_append, List.cons_append]
  gi_wp2
  rw [← hW0]
  refine ⟨trivial, (callsIn_wide.2 CC).mono ?_⟩
  rintro e w2 ⟨rfl, hw2⟩
  rw [hw2]
  clear hw2 w2 CC hW0
  gi_wp2
  simp only [Nat.add_assoc, Nat.reduceAdd]
  rw [← hW3]
  have hB23 := hB3
  clear hW3
  refine wpIn_rangeFunc_y rfl (by decide) (gf := 160) (lb := #[.pointer (some ⟨w.heap.size + 3, 0, none⟩), .pointer (some ⟨w.heap.size + 4, 0, none⟩)]) rfl trivial (enters_of Try.func160 (by kernel_rfl) rfl)
    (fill_seq W H hh.1.1 hh.1.2 _ (w.heap.size + 3) (w.heap.size + 4) W2 cw ch) (fun X x A k o o' h hk ho => ⟨h.1, okC_put h.2 hk ho⟩) hB23 (fun _ => rfl)
    (fun X pre V => (∀ k, X k → W3.heap.size ≤ k) ∧ (RB w.heap.size (w.heap.size + 5) r (wrap64 (pre.length : Int)) w V ∧ ∀ j, j < pre.length → wrap64 (j : Int) ≠ r)) (fun _ X pre V => RX w.heap.size W3.heap.size W2.heap.size W H r w X pre V)
    (ownX_below W3.heap.size (fun (pre : List CV) V => RB w.heap.size (w.heap.size + 5) r (wrap64 (pre.length : Int)) w V ∧ ∀ j, j < pre.length → wrap64 (j : Int) ≠ r) (fun s A C h hb => ⟨h.1.keep hb (by omega), h.2⟩))
    (RX.own (by omega)) ⟨fun k h => h.elim, hRB', fun j h => by simp at h⟩
    (fun x a' V => ∃ Bx, V.cell? ⟨Bx, 0, none⟩ = some (.int .i64 W) ∧ V.cell? ⟨Bx, 1, none⟩ = some (.int .i64 H) ∧ V.cell? ⟨Bx, 2, none⟩ = some (.slice x.2.1 x.1.length x.2.2) ∧ W3.heap.size ≤ Bx ∧ a' = { tmps := #[.int .i64 W, .int .i64 H, .int .i64 r, undef, undef, .pointer (some ⟨w.heap.size, 0, none⟩), .pointer (some ⟨w.heap.size + 1, 0, none⟩), .pointer (some ⟨w.heap.size + 2, 0, none⟩), .func (.func 160) #[] #[.pointer (some ⟨w.heap.size + 3, 0, none⟩), .pointer (some ⟨w.heap.size + 4, 0, none⟩)], .bool true, .pointer (some ⟨w.heap.size + 5, 0, none⟩), .pointer (some ⟨Bx, 0, none⟩), .tuple #[.func (.func 160) #[] #[.pointer (some ⟨w.heap.size + 3, 0, none⟩), .pointer (some ⟨w.heap.size + 4, 0, none⟩)], .bool true], .int .i64 W, .int .i64 H, .tuple #[.func (.func 160) #[] #[.pointer (some ⟨w.heap.size + 3, 0, none⟩), .pointer (some ⟨w.heap.size + 4, 0, none⟩)], .bool true], .func (.func 160) #[] #[.pointer (some ⟨w.heap.size + 3, 0, none⟩), .pointer (some ⟨w.heap.size + 4, 0, none⟩)], .bool true, .func (.func 160) #[] #[.pointer (some ⟨w.heap.size + 3, 0, none⟩), .pointer (some ⟨w.heap.size + 4, 0, none⟩)], .agg #[.int .i64 W, .int .i64 H, .slice x.2.1 x.1.length x.2.2], undef, undef, undef, undef, undef, undef, undef], defers := [] })
    (fun x a' A k o o' h hk ho => by
      obtain ⟨Bx, h0, h1, h2, hx, h3⟩ := h
      have q : ∀ {p : Addr} {v : Value}, A.cell? p = some v → (A.putObj k o').cell? p = some v := fun h => cell_kept h (grownBy_putObj' A k o') (fun r e => by cases e; exact ⟨o, hk, ho⟩)
      exact ⟨Bx, q h0, q h1, q h2, hx, h3⟩) ?assign ?body ?done ?stop
  case assign =>
    rintro l X pre ⟨L, A, c⟩ V K ⟨hX, hM, hne⟩ hok hX2 hsz hK
    dsimp only [encC]
    gi_wp2
    have hb := (Below.refl V.heap.size V).alloc (Nat.le_refl _) (.cells #[.int .i64 W, .int .i64 H, .slice A L.length c] 30)
    exact hK _ _ ((KeepsOthers.alloc _ _).from _) ⟨by simp, fun k hk => Below.heap_alloc V _ k (hX2 k hk).2⟩ ⟨hX, hM.keep hb (by omega), hne⟩ ⟨hok.1, hok.2.1.alloc _, hok.2.2⟩ ⟨V.heap.size, by simp [go_sem], by simp [go_sem], by simp [go_sem], by omega, rfl⟩
  case body =>
    rintro l X pre ⟨L, A, c⟩ a' V ⟨hX, hM, hne⟩ hok ⟨Bx, x0, x1, x2, hx, rfl⟩ hX2 hsz
    dsimp only at x0 x1 x2 ⊢
    obtain ⟨r0, c0, c1, c2, b0, p0, cf, bf, pf, _, hb⟩ := id hM
    have c0f := cf 0
    have c1f := cf 1
    have c2f := cf 2
    have b0f := bf 0
    have p0f := pf 0
    have nB1 : Bx ≠ w.heap.size + 1 := by omega
    obtain ⟨m, hm⟩ : ∃ m, wrap64 (pre.length : Int) = m := ⟨_, rfl⟩
    rw [hm] at p0 hM
    have HM := Lib.hid hM
    have HX := Lib.hid hX
    have HOKC := Lib.hid hok
    have HNE := Lib.hid hne
    have HMM := Lib.hid hm
    clear hM hX hX2 hok hne hm cf bf pf
    cases hmr : (m == r)
    · have HMR := Lib.hid hmr
      have hw1 : wrap64 (m + 1) = wrap64 (((pre ++ [((L, A, c) : CV)]).length : Nat) : Int) := by
        rw [← HMM.out, w_add]; simp
      have HW1 := Lib.hid hw1
      clear hw1
      gi_wp2
      refine ⟨(KeepsOthers.setCell _ _ _).from _, ⟨by simp [World.setCell], fun k hk => Below.heap_setCell _ _ _ k (by have := HX.out k hk; show k ≠ w.heap.size + 5; omega)⟩, (fun k hk => by have := HX.out k hk; omega), ?_, fun j hj => ?_⟩
      · rw [← HW1.out]
        exact HM.out.put _
      · rw [List.length_append] at hj
        simp only [List.length_cons, List.length_nil] at hj
        by_cases e : j = pre.length
        · subst e
          rw [HMM.out]
          intro e2
          have := HMR.out
          rw [e2] at this
          simp at this
        · exact HNE.out j (by omega)
    · have HMR := Lib.hid hmr
      gi_wp2
      have hO := HM.out.out W H A L.length c true
      have hlo := HOKC.out.2.1.lt
      refine ⟨((((KeepsOthers.setCell _ _ _).from _).trans ((KeepsOthers.setCell _ _ _).from _)).trans ((KeepsOthers.setCell _ _ _).from _)).trans ((KeepsOthers.setCell _ _ _).from _),
        ⟨by simp [World.setCell], fun k hk => hO.2.1 k (by have := HX.out k hk; omega) (by have := HX.out k hk; omega)⟩, pre, (L, A, c), rfl, by rw [HMM.out]; simpa using HMR.out, hO.1.1, hO.1.2, ?_, hO.2.2, (fun k hk => by have := HX.out k hk; omega)⟩
      rw [← hz2]
      exact ⟨own_of_block HOKC.out.2.1 (fun k hk => hO.2.1 k (by have := (hlo k hk).1; omega) (by have := (hlo k hk).1; omega)), HOKC.out.2.2⟩
  case done =>
    rintro D ys X V hD hys ⟨hX, hM, hne⟩ hK
    obtain ⟨r0, c0, c1, c2, b0, p0, cf, bf, pf, _, hb⟩ := id hM
    have c0f := cf 0
    have c1f := cf 1
    have c2f := cf 2
    have b0f := bf 0
    have hyl : ys.length = (allF W H).length := by rw [← show firsts ys = allF W H from hys]; simp [firsts]
    have hno : rkB W H r = false := by
      unfold rkB
      rw [HOK.out, Bool.true_and, decide_eq_false_iff_not]
      simp only [Int.toNat_natCast]
      intro h
      have h1 := hne r.toNat (by omega)
      have h2 := HFEW.out
      rw [w_in (by omega) (by omega)] at h1
      exact h1 (by omega)
    have HNO := Lib.hid hno
    have HM := Lib.hid hM
    clear hM hX hne hyl hno cf bf pf
    gi_wp2
    have hO := HM.out.out 0 0 none 0 0 false
    have hK2 := (hO.2.1 D (by omega) (by omega)).trans hK
    have hFB := belowK_b (w := W3) (n₀ := W3.heap.size) (Nat.le_refl _) _ D _ (.deferred none) hD hK2 rfl rfl
    have e0 := (hFB.cell (p := ⟨w.heap.size + 1, 0, none⟩) (by show w.heap.size + 1 < _; omega)).trans hO.1.1.1
    have e1 := (hFB.cell (p := ⟨w.heap.size + 1, 1, none⟩) (by show w.heap.size + 1 < _; omega)).trans hO.1.1.2.1
    have e2 := (hFB.cell (p := ⟨w.heap.size + 1, 2, none⟩) (by show w.heap.size + 1 < _; omega)).trans hO.1.1.2.2
    have e3 := (hFB.cell (p := ⟨w.heap.size + 2, 0, none⟩) (by show w.heap.size + 2 < _; omega)).trans hO.1.2
    refine ⟨by simp, .inl ⟨_, _, rfl, run_takeDeferred hK2, ?_⟩⟩
    obtain ⟨n1, n2, n3⟩ := rk_no HNO.out
    rw [HNO.out, n1, n2, n3]
    refine ⟨.tuple #[.agg #[.int .i64 0, .int .i64 0, .slice none 0 0], .bool false], by simp [results, Try.f21, go_sem, e0, e1, e2, e3], ?_⟩
    exact RetCut.none_ (hO.2.2.trans (hFB.mono (by omega)))
  case stop =>
    rintro D pre X V hD hSp hR hK
    obtain ⟨ps, x, rfl, hl, ⟨c0, c1, c2⟩, b0, hok, hb, hX⟩ := hR
    gi_wp2
    obtain ⟨zs, hzs⟩ := hSp
    have hps : ps.length + 1 + zs.length = (allF W H).length := by
      have := congrArg List.length hzs
      simp at this
      omega
    have hfw := HFEW.out
    rw [w_in (by omega) (by omega)] at hl
    subst hl
    have hget : (allF W H)[ps.length]? = some x.1 := by rw [← hzs]; simp
    obtain ⟨y1, y2, y3, y4⟩ := rk_yes HOK.out hget
    have hFB := belowK_b (w := W3) (n₀ := W3.heap.size) (Nat.le_refl _) V D _ (.deferred none) hD hK rfl rfl
    have e0 := (hFB.cell (p := ⟨w.heap.size + 1, 0, none⟩) (by show w.heap.size + 1 < _; omega)).trans c0
    have e1 := (hFB.cell (p := ⟨w.heap.size + 1, 1, none⟩) (by show w.heap.size + 1 < _; omega)).trans c1
    have e2 := (hFB.cell (p := ⟨w.heap.size + 1, 2, none⟩) (by show w.heap.size + 1 < _; omega)).trans c2
    have e3 := (hFB.cell (p := ⟨w.heap.size + 2, 0, none⟩) (by show w.heap.size + 2 < _; omega)).trans b0
    refine ⟨by simp, .inl ⟨_, _, rfl, run_takeDeferred hK, ?_⟩⟩
    rw [y1, y2, y3, y4]
    refine ⟨.tuple #[.agg #[.int .i64 W, .int .i64 H, .slice x.2.1 x.1.length x.2.2], .bool true], by simp [results, Try.f21, go_sem, e0, e1, e2, e3], ?_⟩
    exact RetCut.mk rfl (own_base (okC_put hok hK rfl).1 (by omega)) (hb.trans (hFB.mono (by omega)))
set_option maxRecDepth 100000 in
set_option maxHeartbeats 16000000 in
theorem implOf_no (W H r : Int) (hno : okL W H = false) (w : World) : Calls Try.prog 21 #[.int .i64 W, .int .i64 H, .int .i64 r] w (RetCut w 0 0 [] false) := by
  obtain ⟨W0, hW0⟩ : ∃ W0, W0 = ((w.alloc (.cells #[.int .i64 r] 3)).alloc (.cells #[.int .i64 0, .int .i64 0, .slice none 0 0] 30)).alloc (.cells #[.bool false] 4) := ⟨_, rfl⟩
  have hz0 : W0.heap.size = w.heap.size + 3 := by rw [hW0]; simp
  have hB0 : Below w.heap.size w W0 := by rw [hW0]; exact (((Below.refl _ _).alloc (Nat.le_refl _) _).alloc (by simp) _).alloc (by simp; omega) _
  have a0 : W0.cell? ⟨w.heap.size, 0, none⟩ = some (.int .i64 r) := by rw [hW0, World.cell?_alloc_lt _ _ _ (by simp; omega), World.cell?_alloc_lt _ _ _ (by simp)]; simp [go_sem]
  have a1 : W0.cell? ⟨w.heap.size + 1, 0, none⟩ = some (.int .i64 0) := by rw [hW0, World.cell?_alloc_lt _ _ _ (by simp)]; simp [go_sem]
  have a2 : W0.cell? ⟨w.heap.size + 1, 1, none⟩ = some (.int .i64 0) := by rw [hW0, World.cell?_alloc_lt _ _ _ (by simp)]; simp [go_sem]
  have a3 : W0.cell? ⟨w.heap.size + 1, 2, none⟩ = some (.slice none 0 0) := by rw [hW0, World.cell?_alloc_lt _ _ _ (by simp)]; simp [go_sem]
  have a4 : W0.cell? ⟨w.heap.size + 2, 0, none⟩ = some (.bool false) := by rw [hW0]; simp [go_sem]
  have a5 : ∀ o, W0.frozen? ⟨w.heap.size + 1, o, none⟩ = false := fun o => by
    have e : w.heap.size + 1 = (w.alloc (.cells #[.int .i64 r] 3)).heap.size := by simp
    rw [hW0, e]
    exact ((((Below.refl _ _).alloc (Nat.le_refl _) _) : Below ((w.alloc (.cells #[.int .i64 r] 3)).alloc (.cells #[.int .i64 0, .int .i64 0, .slice none 0 0] 30)).heap.size _ _).frozen (p := ⟨_, o, none⟩) (by show _ < _; simp)).trans (World.frozen?_alloc_at _ _ _ _ rfl)
  have a6 : ∀ o, W0.frozen? ⟨w.heap.size + 2, o, none⟩ = false := fun o => by rw [hW0]; exact World.frozen?_alloc_at _ _ _ _ (by simp)
  have CC := listed_no W H hno W0
  clear hno
  refine (callsIn_wide (n := 5)).1 ?_
  refine callsIn_of_wp_marks Try.func21 rfl trivial ?_ rfl
  simp only [Try.ntmps21, List.size_toArray, List.length_cons, List.length_nil, Nat.reduceAdd, Nat.reduceSub, Array.replicate_succ, Array.replicate_zero, List.push_toArray, List.append_toArray, List.nil_append, List.cons_append]
  gi_wp2
  rw [← hW0]
  refine ⟨trivial, (callsIn_wide.2 CC).mono ?_⟩
  rintro e W2 ⟨Bs, A, c, rfl, hBs, hB2⟩
  clear CC hW0
  have hs2 := hB2.size
  obtain ⟨W3, hW3⟩ : ∃ W3, W3 = W2.alloc (.cells #[.int .i64 0] 3) := ⟨_, rfl⟩
  have hz3 : W3.heap.size = W2.heap.size + 1 := by rw [hW3]; simp
  have hB3 : Below W2.heap.size W2 W3 := by rw [hW3]; exact (Below.refl _ _).alloc (Nat.le_refl _) _
  have hRB : RB w.heap.size W2.heap.size r 0 w W3 := by
    have hB03 : Below W0.heap.size W0 W3 := hB2.trans (hB3.mono hB2.size)
    have q : ∀ {b o : Nat} {v : Value}, b < W0.heap.size → W0.cell? ⟨b, o, none⟩ = some v → W3.cell? ⟨b, o, none⟩ = some v := fun hb' h' => (hB03.cell (p := ⟨_, _, none⟩) hb').trans h'
    exact ⟨q (by omega) a0, q (by omega) a1, q (by omega) a2, q (by omega) a3, q (by omega) a4, by rw [hW3]; simp [go_sem], fun o => (hB03.frozen (p := ⟨w.heap.size + 1, o, none⟩) (by show w.heap.size + 1 < _; omega)).trans (a5 o), fun o => (hB03.frozen (p := ⟨w.heap.size + 2, o, none⟩) (by show w.heap.size + 2 < _; omega)).trans (a6 o), fun o => by rw [hW3]; exact World.frozen?_alloc_at _ _ _ _ rfl, by omega, hB0.trans (hB03.mono hB0.size)⟩
  have cb := (hB3.cell (p := ⟨Bs, 0, none⟩) (World.block_lt_of_cell? _ _ hBs)).trans hBs
  clear a0 a1 a2 a3 a4 a5 a6 hB2
  gi_wp2
  rw [← hW3]
  clear hW3 hB3 hBs
  refine wpIn_rangeFunc_x rfl (by decide) (gf := 143) (lb := #[.pointer (some ⟨Bs, 0, none⟩)]) rfl trivial (enters_of Try.func143 (by kernel_rfl) rfl)
    (emptyC_seq _ Bs c A W3 cb) (fun X x A k o o' h hk ho => h.elim) (Below.refl _ _) (fun _ => rfl)
    (fun X pre V => (∀ k, X k → W3.heap.size ≤ k) ∧ RB w.heap.size W2.heap.size r 0 w V) (fun _ _ _ => False)
    (ownX_below W3.heap.size (fun (pre : List CV) V => RB w.heap.size W2.heap.size r 0 w V) (fun s A C h hb => h.keep hb (by omega)))
    ⟨fun _ _ _ _ _ h _ _ _ => h.elim, fun _ _ _ _ _ _ h _ _ _ => h.elim, fun _ _ _ _ h _ => h.elim⟩ ⟨fun k h => h.elim, hRB⟩
    (fun x a' V => False) (fun x a' A k o o' h hk ho => h) ?assign ?body ?done ?stop
  case assign =>
    rintro l X pre x V K h hok
    exact hok.elim
  case body =>
    rintro l X pre x a' V h hok
    exact hok.elim
  case done =>
    rintro D ys X V hD hys ⟨hX, hM⟩ hK
    obtain ⟨r0, c0, c1, c2, b0, p0, cf, bf, pf, _, hb⟩ := id hM
    have c0f := cf 0
    have c1f := cf 1
    have c2f := cf 2
    have b0f := bf 0
    have HM := Lib.hid hM
    clear hM hX cf bf pf
    gi_wp2
    have hO := HM.out.out 0 0 none 0 0 false
    have hK2 := (hO.2.1 D (by omega) (by omega)).trans hK
    have hFB := belowK_b (w := W3) (n₀ := W3.heap.size) (Nat.le_refl _) _ D _ (.deferred none) hD hK2 rfl rfl
    have e0 := (hFB.cell (p := ⟨w.heap.size + 1, 0, none⟩) (by show w.heap.size + 1 < _; omega)).trans hO.1.1.1
    have e1 := (hFB.cell (p := ⟨w.heap.size + 1, 1, none⟩) (by show w.heap.size + 1 < _; omega)).trans hO.1.1.2.1
    have e2 := (hFB.cell (p := ⟨w.heap.size + 1, 2, none⟩) (by show w.heap.size + 1 < _; omega)).trans hO.1.1.2.2
    have e3 := (hFB.cell (p := ⟨w.heap.size + 2, 0, none⟩) (by show w.heap.size + 2 < _; omega)).trans hO.1.2
    refine ⟨by simp, .inl ⟨_, _, rfl, run_takeDeferred hK2, ?_⟩⟩
    refine ⟨.tuple #[.agg #[.int .i64 0, .int .i64 0, .slice none 0 0], .bool false], by simp [results, Try.f21, go_sem, e0, e1, e2, e3], ?_⟩
    exact RetCut.none_ (hO.2.2.trans (hFB.mono (by omega)))
  case stop =>
    intro D pre V _ _ h
    exact h.elim
theorem rkL_len (W H r : Int) : (rkL W H r).length ≤ 1048576 := by
  unfold rkL
  split
  · rename_i h
    unfold rkB at h
    rw [Bool.and_eq_true] at h
    obtain ⟨a, b, rfl, rfl⟩ := okL_ex h.1
    cases hg : (allF (a : Int).toNat (b : Int).toNat)[r.toNat]? with
    | none => simp
    | some L =>
      have hm := List.mem_of_getElem? hg
      have := (allF_good h.1 L (by simpa using hm)).2.2.1.2
      simp only [Option.getD_some]
      omega
  · simp
theorem implOf_any (W H r : Int) (w : World) : Calls Try.prog 21 #[.int .i64 W, .int .i64 H, .int .i64 r] w (RetCut w (rkX W H r W) (rkX W H r H) (rkL W H r) (rkB W H r)) := by
  cases hok : okL W H with
  | false =>
    have e : rkB W H r = false := by unfold rkB; rw [hok]; rfl
    obtain ⟨n1, n2, n3⟩ := rk_no e
    rw [e, n1, n2, n3]
    exact implOf_no W H r hok w
  | true =>
    obtain ⟨a, b, rfl, rfl⟩ := okL_ex hok
    exact implOf_yes a b r hok w
set_option maxRecDepth 100000 in
set_option maxHeartbeats 4000000 in
theorem specOf_any (W H r : Int) (w : World) : Calls Try.prog 20 #[.int .i64 W, .int .i64 H, .int .i64 r] w (RetCut w (rkX W H r W) (rkX W H r H) (rkL W H r) (rkB W H r)) := by
  have hs := fun w => ctFew_any W H w
  cases hok : okL W H with
  | false =>
    have e : rkB W H r = false := by unfold rkB; rw [hok]; rfl
    obtain ⟨n1, n2, n3⟩ := rk_no e
    rw [e, n1, n2, n3]
    simp only [hok] at hs
    have HS := Lib.hid hs
    clear hs hok e n1 n2 n3
    go_enter Try.func20, Try.ntmps20
    go_wp2_with fail
    (with_reducible refine (HS.out _).mono ?_)
    rintro e w' ⟨rfl, rfl⟩
    go_wp2_with fail
    refine bodyPost_ret (v := .tuple #[.agg #[.int .i64 0, .int .i64 0, .slice none 0 0], .bool false]) (by simp [results, Try.results20, go_sem]) rfl ?_
    exact RetCut.none_ ((Below.refl _ _).alloc (Nat.le_refl _) _)
  | true =>
    obtain ⟨a, b, rfl, rfl⟩ := okL_ex hok
    have hh := okL_nat.1 hok
    simp only [hok] at hs
    have hfew := allF_few hok
    have C := fun w => ctAll_any a b (by omega) (by omega) (by omega) w
    simp only [show fills 6 b (a * b) (List.replicate a 0) = allF a b from rfl] at C
    have HS := Lib.hid hs
    have HCA := Lib.hid C
    have HF := Lib.hid hfew
    have HOK := Lib.hid hok
    clear hs C hfew hok
    go_enter Try.func20, Try.ntmps20
    go_wp2_with fail
    (with_reducible refine (HS.out _).mono ?_)
    rintro e w' ⟨rfl, rfl⟩
    go_wp2_with fail
    obtain ⟨W1, hW1⟩ : ∃ W1, W1 = w.alloc (.cells #[.int .i64 0, .int .i64 0, .slice none 0 0] 30) := ⟨_, rfl⟩
    have hb1 : Below w.heap.size w W1 := by rw [hW1]; exact (Below.refl _ _).alloc (Nat.le_refl _) _
    have hz1 : W1.heap.size = w.heap.size + 1 := by rw [hW1]; simp
    have q0 : W1.cell? ⟨w.heap.size, 0, none⟩ = some (.int .i64 0) := by rw [hW1]; simp [go_sem]
    have q1 : W1.cell? ⟨w.heap.size, 1, none⟩ = some (.int .i64 0) := by rw [hW1]; simp [go_sem]
    have q2 : W1.cell? ⟨w.heap.size, 2, none⟩ = some (.slice none 0 0) := by rw [hW1]; simp [go_sem]
    have qf : ∀ o, W1.frozen? ⟨w.heap.size, o, none⟩ = false := fun o => by rw [hW1]; exact World.frozen?_alloc_at _ _ _ _ rfl
    rw [← hW1]
    clear hW1
    (with_reducible refine (HCA.out _).mono ?_)
    rintro e w2 ⟨A9, c9, Cs, rfl, hm, hCL, hb2⟩
    have hlt1 : w.heap.size < W1.heap.size := by omega
    have q0 := (hb2.cell (p := ⟨w.heap.size, 0, none⟩) hlt1).trans q0
    have q1 := (hb2.cell (p := ⟨w.heap.size, 1, none⟩) hlt1).trans q1
    have q2 := (hb2.cell (p := ⟨w.heap.size, 2, none⟩) hlt1).trans q2
    have qf0 := (hb2.frozen (p := ⟨w.heap.size, 0, none⟩) hlt1).trans (qf 0)
    have qf1 := (hb2.frozen (p := ⟨w.heap.size, 1, none⟩) hlt1).trans (qf 1)
    have qf2 := (hb2.frozen (p := ⟨w.heap.size, 2, none⟩) hlt1).trans (qf 2)
    have hCl : Cs.length = (allF a b).length := by rw [← hm, List.length_map]
    have hC6 : Cs.length ≤ 65536 := by have := HF.out; omega
    have HCC := Lib.hid hCl
    have HM := Lib.hid hm
    have HCL := Lib.hid hCL
    have HB2 := Lib.hid hb2
    have e1 : IntKind.i64.wrap ((Cs.length : Int) - 1) = (Cs.length : Int) - 1 := IntWalk.i64_in _ (by omega)
    clear hm hCL hCl qf hb2
    have hBs : ∀ (v0 v1 v2 : Value), Below w.heap.size w (((w2.setCell ⟨w.heap.size, 0, none⟩ v0).setCell ⟨w.heap.size, 1, none⟩ v1).setCell ⟨w.heap.size, 2, none⟩ v2) := fun v0 v1 v2 =>
      (((hb1.trans (HB2.out.mono hb1.size)).setCell (p := ⟨w.heap.size, 0, none⟩) (Nat.le_refl _) _).setCell (p := ⟨w.heap.size, 1, none⟩) (Nat.le_refl _) _).setCell (p := ⟨w.heap.size, 2, none⟩) (Nat.le_refl _) _
    have HBS := Lib.hid hBs
    clear hBs
    cases hr : inB r 0 ((Cs.length : Int) - 1) with
    | false =>
      have hno : rkB a b r = false := by
        unfold rkB
        rw [HOK.out, Bool.true_and, decide_eq_false_iff_not]
        simp only [Int.toNat_natCast]
        intro h
        have h2 : inB r 0 ((Cs.length : Int) - 1) = true := inB_iff.2 (by have := HCC.out; omega)
        rw [hr] at h2; cases h2
      have HNO := Lib.hid hno
      have HR := Lib.hid hr
      clear hno hr
      go_wp2_with fail
      refine (l1In_any _ _ _ _).mono ?_
      rw [HR.out]
      rintro e w' ⟨rfl, rfl⟩
      go_wp2_with fail
      obtain ⟨n1, n2, n3⟩ := rk_no HNO.out
      rw [HNO.out, n1, n2, n3]
      refine bodyPost_ret (v := .tuple #[.agg #[.int .i64 0, .int .i64 0, .slice none 0 0], .bool false]) (by simp [results, Try.results20, go_sem, q0, q1, q2]) rfl ?_
      exact RetCut.none_ (by first | exact HBS.out _ _ _ | exact hb1.trans (HB2.out.mono hb1.size))
    | true =>
      have hri := inB_iff.1 hr
      obtain ⟨i, rfl⟩ := Int.eq_ofNat_of_zero_le hri.1
      have hil : i < Cs.length := by omega
      obtain ⟨x, hx⟩ : ∃ x, Cs[i]? = some x := ⟨_, List.getElem?_eq_getElem hil⟩
      have hget : (allF a b)[i]? = some x.1 := by rw [← HM.out, List.getElem?_map, hx]; rfl
      have hyes := rk_yes HOK.out hget
      have HY := Lib.hid hyes
      obtain ⟨g9, rfl⟩ := own_form HCL.out.own (show 0 < Cs.length by omega)
      obtain ⟨c0, c1, c2⟩ := HCL.out.at hx
      have hown := HCL.out.sq x (List.mem_of_getElem? hx)
      have HOW := Lib.hid hown
      have HR := Lib.hid hr
      have i0 : (0 : Int) ≤ (i : Int) := by omega
      have i1 : (i : Int) < (Cs.length : Int) := by omega
      clear hr hri hx hget hyes hown
      go_wp2_with fail
      refine (l1In_any _ _ _ _).mono ?_
      rw [HR.out]
      rintro e w' ⟨rfl, rfl⟩
      go_wp2_with fail
      obtain ⟨y1, y2, y3, y4⟩ := HY.out
      rw [y1, y2, y3, y4]
      refine bodyPost_ret (v := .tuple #[.agg #[.int .i64 a, .int .i64 b, .slice x.2.1 x.1.length x.2.2], .bool true]) (by simp [results, Try.results20, go_sem, q0, q1, q2]) rfl ?_
      have hlo := HOW.out.lt
      exact RetCut.mk rfl (own_base (own_of_block HOW.out (fun k hk => by
        have := (hlo k hk).1
        exact (Below.heap_setCell _ _ _ k (by show k ≠ w.heap.size; omega)).trans ((Below.heap_setCell _ _ _ k (by show k ≠ w.heap.size; omega)).trans (Below.heap_setCell _ _ _ k (by show k ≠ w.heap.size; omega))))) hb1.size) (HBS.out _ _ _)
end Go.Proofs.Ytohajmbgdapnhaa
