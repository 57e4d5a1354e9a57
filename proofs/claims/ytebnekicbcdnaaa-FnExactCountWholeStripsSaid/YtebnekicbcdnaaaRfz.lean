/- Ranges over a function whose iterator yields what is fresh. -/
import Derived.Test.YtebnekicbcdnaaaRfx
import Derived.RangeFuncNested
import Derived.RangeFuncBound
import Derived.RangeFuncCalls
import Derived.RangeFuncLeaves
import Derived.RangeFuncBox
import Derived.Shelf.Abstract
import Derived.WalkKit
import Derived.OwnWalkIn
import Derived.Test.YtebnekicbcdnaaaRows
set_option linter.all false
namespace Go.Proofs.Ytebnekicbcdnaaa
open Go.RowKit Go.Shelf

/-- The contract of an iterator value; the blocks Bl of what is yielded were the iterator's own till now: Ok X x W: what is yielded lies in W beside the iterator's blocks X. -/
def SeqZ {α : Type} (Bl : α → Nat → Prop) (N : Nat) (F : Fence) (n : Nat) (P : Program) (g : Nat) (lb : Array Value) (encs : α → Array Value) (Ok : (Nat → Prop) → α → World → Prop) (S Sp : List α → Prop) (w : World) : Prop :=
  ∀ (l : Nat) (J Jx : (Nat → Prop) → List α → World → Prop) (W : World), Below w.heap.size w W → AbX J → AbX Jx →
    (∀ X pre x W1, J X pre W1 → Ok X x W1 → (∀ k, X k → W.heap.size ≤ k ∧ k < W1.heap.size) → (∃ X', J X' pre W1 ∧ ∀ b, Bl x b → X' b) → pre.length < N → YieldAt F (n - 1) P l (encs x) W1 fun e W' =>
      (e = .returned (.bool true) ∧ J X (pre ++ [x]) W' ∧ KeepX X W1 W') ∨ (e = .returned (.bool false) ∧ Jx X (pre ++ [x]) W' ∧ KeepX X W1 W')) →
    J (fun _ => False) [] W →
    CallsIn F n P g (#[.func (.yield l) #[] #[]] ++ lb) W fun e W' => (∃ v, e = .returned v) ∧ ((∃ xs X, S xs ∧ J X xs W') ∨ (∃ pre X, Sp pre ∧ Jx X pre W'))

variable {F : Fence} {n : Nat} {P : Program}

theorem wpIn_rangeFunc_z {α : Type} {Bl : α → Nat → Prop} {N : Nat} {g : Operand} {ps : Array Tmp} {assign body : Code} {Q : Exit → Act → World → Prop} {a : Act} {w : World}
    (hro : F.round = none) (h1 : 1 ≤ n) {gf : Nat} {lb : Array Value} (hg : a.eval g = .func (.func gf) #[] lb) (hFg : F.fn gf) (eg : ∀ args w, (callFunc gf args).run P w = .ok (.enter gf args) w)
    {encs : α → Array Value} {Ok : (Nat → Prop) → α → World → Prop} {S Sp : List α → Prop} {w0 : World} (hseq : SeqZ Bl N F (n - 1) P gf lb encs Ok S Sp w0)
    (hb0 : Below w0.heap.size w0 w) (hps : ∀ x, (encs x).size = ps.size)
    (I : (Nat → Prop) → List α → World → Prop) (Ix : Code → List α → World → Prop) (hI : OwnX w.heap.size I) (hIx : OwnX (β := List α) w.heap.size (fun _ => Ix .ret)) (h0 : I (fun _ => False) [] w)
    (Im : (Nat → Prop) → List α → α → World → Prop) (hIm : ∀ X pre x W, I X pre W → Ok X x W → (∀ k, X k → w.heap.size + 1 < k ∧ k < W.heap.size) → (∃ X', I X' pre W ∧ ∀ b, Bl x b → X' b) → pre.length < N → Im X pre x W) (hImt : ∀ X pre x A k o o', Im X pre x A → w.heap.size ≤ k → A.heap[k]? = some o → o.isCells = false → Im X pre x (A.putObj k o')) (Ax : α → Act → World → Prop) (hAx : ∀ x a' A k o o', Ax x a' A → A.heap[k]? = some o → o.isCells = false → Ax x a' (A.putObj k o'))
    (hassign : ∀ (l : Nat) (X : Nat → Prop) (pre : List α) (x : α) (W : World) (K : Act → World → Prop), Im X pre x W → (∀ k, X k → w.heap.size + 1 < k ∧ k < W.heap.size) → w.heap.size + 1 < W.heap.size →
      (∀ a' W', KeepsFrom w.heap.size W W' → KeepX X W W' → Im X pre x W' → Ax x a' W' → K a' W') →
      assign.wpIn (F.inRound l) (n - 1 - 1) P (Exit.then K (fun _ _ _ => False)) { tmps := (ps.zip (encs x)).foldl (fun t (p, v) => t.setIfInBounds p v) a.tmps, defers := [] } W)
    (hbody : ∀ (l : Nat) (X : Nat → Prop) (pre : List α) (x : α) (a' : Act) (W : World), Im X pre x W → Ax x a' W → (∀ k, X k → w.heap.size + 1 < k ∧ k < W.heap.size) → w.heap.size + 1 < W.heap.size → body.wpIn (F.inRound l) (n - 1 - 1) P (postX w.heap.size I Ix X (pre ++ [x]) W) a' W)
    (hdone : ∀ (D : Nat) (xs : List α) (X : Nat → Prop) (W : World), w.heap.size ≤ D → S xs → I X xs W → W.heap[D]? = some (.deferred (some [])) → Q .normal { a with defers := { target := .collected D, args := #[] } :: a.defers } W)
    (hstop : ∀ (D : Nat) (pre : List α) (W : World), w.heap.size ≤ D → Sp pre → Ix .ret pre W → W.heap[D]? = some (.deferred (some [])) → Code.ret.wpIn F n P Q { a with defers := { target := .collected D, args := #[] } :: a.defers } W) :
    (Code.rangeFunc g ps assign body).wpIn F n P Q a w := by
  refine wpIn_rangeFunc fun fn hfn => ?_
  rw [hro]
  let rec' : LoopState → Option Code → Loop := fun st pe => { state := st, pending := pe, fn, tmps := a.tmps, params := ps, assign, body, defers := w.heap.size }
  obtain ⟨rc, hrc⟩ : ∃ rc, rc = rec' := ⟨_, rfl⟩
  obtain ⟨W1, hW1⟩ : ∃ W1, (w.alloc (.deferred (some []))).alloc (.loop (rc .ready none)) = W1 := ⟨_, rfl⟩
  have hs1 : W1.heap.size = w.heap.size + 2 := by rw [← hW1]; simp
  have hL1 : W1.heap[w.heap.size + 1]? = some (.loop (rc .ready none)) := by
    rw [← hW1]; have := World.alloc_heap_new (w.alloc (.deferred (some []))) (.loop (rc .ready none)); rwa [World.size_alloc] at this
  have hK1 : W1.heap[w.heap.size]? = some (.deferred (some [])) := by
    rw [← hW1]; exact (Below.heap_alloc _ _ _ (by simp)).trans (World.alloc_heap_new w _)
  have hI1 : I (fun _ => False) [] W1 := by
    have e1 := hI.less _ (fun _ => False) _ _ (hI.grow _ _ _ _ none h0 (World.grownBy_alloc w (.deferred (some [])) none) (Nat.le_refl _) (fun r e => by cases e)) (fun k h => h.elim)
    have e2 := hI.less _ (fun _ => False) _ _ (hI.grow _ _ _ _ none e1 (World.grownBy_alloc _ (.loop (rc .ready none)) none) (by simp) (fun r e => by cases e)) (fun k h => h.elim)
    rw [← hW1]; exact e2
  have hb1 : Below w0.heap.size w0 W1 := by
    rw [← hW1]; exact hb0.trans ((((Below.refl _ w).alloc (Nat.le_refl _) _).alloc (by simp) _).mono hb0.size)
  refine ⟨w.heap.size + 1, [{ target := .collected w.heap.size, args := #[] }], W1, { target := .fn (.func gf) lb, args := #[.func (.yield (w.heap.size + 1)) #[] #[]] }, W1, gf,
    #[.func (.yield (w.heap.size + 1)) #[] #[]] ++ lb, W1, ?_, ?_, ?_, ?_, fun _ => h1, ?_⟩
  · rw [← hW1, hrc]; exact run_enterLoop_outer _ _ _ _ _
  · simp only [resolve, hg]
    simp [go_sem]
  · intro f' hf'; simp [Target.leads] at hf'; subst hf'; exact hFg
  · simp [invoke, go_sem, eg]
  have ab : ∀ {X : Nat → Prop} {A B : World} {row : Option Nat} {k : Nat} {o : Obj}, (∀ k, X k → w.heap.size + 1 < k ∧ k < A.heap.size) → A.grownBy B row → (∀ r, row = some r → X r) → k ≤ w.heap.size + 1 → A.heap[k]? = some o → B.heap[k]? = some o := fun hX hg hr hk ho =>
    (hg.block _ (Array.getElem?_eq_some_iff.1 ho).1 (fun e => by have := hX _ (hr _ e.symm); omega)).trans ho
  have nx : ∀ {X : Nat → Prop} {A B : World} {row : Option Nat}, (∀ k, X k → w.heap.size + 1 < k ∧ k < A.heap.size) → A.grownBy B row → w.heap.size + 1 < A.heap.size → ∀ k, newX X A B k → w.heap.size + 1 < k ∧ k < B.heap.size := fun hX hg hA k hk => by
    rcases hk with hk | hk
    · have := hX k hk; have := hg.size; omega
    · omega
  refine (hseq (w.heap.size + 1)
    (fun X pre W => I X pre W ∧ (∀ k, X k → w.heap.size + 1 < k ∧ k < W.heap.size) ∧ W.heap[w.heap.size + 1]? = some (.loop (rc .ready none)) ∧ W.heap[w.heap.size]? = some (.deferred (some [])))
    (fun X pre W => Ix .ret pre W ∧ (∀ k, X k → w.heap.size + 1 < k ∧ k < W.heap.size) ∧ W.heap[w.heap.size + 1]? = some (.loop (rc .done (some .ret))) ∧ W.heap[w.heap.size]? = some (.deferred (some [])))
    W1 hb1
    ⟨fun X s A B row ⟨h1, h2, h3, h4⟩ hg hr => ⟨hI.grow _ _ _ _ _ h1 hg (by have := (Array.getElem?_eq_some_iff.1 h4).1; omega) hr, nx h2 hg (Array.getElem?_eq_some_iff.1 h3).1, ab h2 hg hr (Nat.le_refl _) h3, ab h2 hg hr (by omega) h4⟩,
      fun X X' s A ⟨h1, h2, h3, h4⟩ hx => ⟨hI.less _ _ _ _ h1 hx, fun k hk => h2 k (hx k hk), h3, h4⟩⟩
    ⟨fun X s A B row ⟨h1, h2, h3, h4⟩ hg hr => ⟨hIx.grow X _ _ _ _ h1 hg (by have := (Array.getElem?_eq_some_iff.1 h4).1; omega) hr, nx h2 hg (Array.getElem?_eq_some_iff.1 h3).1, ab h2 hg hr (Nat.le_refl _) h3, ab h2 hg hr (by omega) h4⟩,
      fun X X' s A ⟨h1, h2, h3, h4⟩ hx => ⟨h1, fun k hk => h2 k (hx k hk), h3, h4⟩⟩
    ?_ ⟨hI1, fun k h => h.elim, hL1, hK1⟩).mono ?_
  · rintro X pre x W ⟨hi, hX, hl, hk⟩ hok hX2 ⟨X', ⟨hi', _⟩, hbl⟩ hN
    have him := hIm X pre x W hi hok hX ⟨X', hi', hbl⟩ hN
    have hlt : w.heap.size + 1 < W.heap.size := (Array.getElem?_eq_some_iff.1 hl).1
    have hy := run_yield (P := P) (args := encs x) hl (by rw [hrc]; exact hps x)
    rw [hrc] at hy
    refine ⟨fn, _, assign, body, hy, roundIn_of_wpIn hfn (hassign _ X pre x W _ him hX hlt ?_)⟩
    clear hy
    intro a' Wa hkf hkx hima hax
    have hla := hkf.same _ _ (by omega) hl rfl
    have hka := hkf.same _ _ (Nat.le_refl _) hk rfl
    have hlta : w.heap.size + 1 < Wa.heap.size := (Array.getElem?_eq_some_iff.1 hla).1
    have hXa : ∀ k, X k → w.heap.size + 1 < k ∧ k < Wa.heap.size := fun k h => by have := hX k h; have := hkf.size; omega
    refine ⟨_, run_beginRound hla (by rw [hrc]), ?_⟩
    obtain ⟨V, hV⟩ : ∃ V, Wa.putObj (w.heap.size + 1) (.loop { rc .ready none with state := .busy }) = V := ⟨_, rfl⟩
    have sz : V.heap.size = Wa.heap.size := by rw [← hV]; simp
    have hl2 : V.heap[w.heap.size + 1]? = some (.loop { rc .ready none with state := .busy }) := by rw [← hV]; exact World.putObj_heap_same hlta
    have hk2 : V.heap[w.heap.size]? = some (.deferred (some [])) := by rw [← hV]; exact (World.putObj_heap_other (by omega)).trans hka
    have himV : Im X pre x V := by rw [← hV]; exact hImt _ _ _ _ _ _ _ hima (by omega) hla rfl
    have haxV : Ax x a' V := by rw [← hV]; exact hAx _ _ _ _ _ _ hax hla rfl
    have hwV : KeepX X W V := hkx.trans (by rw [← hV]; exact ⟨by simp, fun k hk => World.putObj_heap_other (fun e => by have := hX k hk; omega)⟩)
    have hgo : (Wa.putObj (w.heap.size + 1) (.loop { rc .ready none with state := .busy })) = V := hV
    rw [hgo]
    have szV : W.heap.size ≤ V.heap.size := by have := hkf.size; omega
    refine wpIn_mono (hbody _ X pre x a' V himV haxV (fun k hk => by have := hXa k hk; omega) (by omega)) ?_
    have fin : ∀ (jump : Option Code) (W3 : World), KeepsFrom w.heap.size V W3 →
        (Instr.endRound (w.heap.size + 1) jump).run P W3 = .ok (.bool jump.isNone) (W3.putObj (w.heap.size + 1) (.loop (rc (if jump.isNone then .ready else .done) jump))) ∧
        W3.heap[w.heap.size + 1]? = some (.loop { rc .ready none with state := .busy }) ∧
        (W3.putObj (w.heap.size + 1) (.loop (rc (if jump.isNone then .ready else .done) jump))).heap[w.heap.size + 1]? = some (.loop (rc (if jump.isNone then .ready else .done) jump)) ∧
        (W3.putObj (w.heap.size + 1) (.loop (rc (if jump.isNone then .ready else .done) jump))).heap[w.heap.size]? = some (.deferred (some [])) := fun jump W3 hk3 => by
      have hl3 := hk3.same _ _ (by omega) hl2 rfl
      have e := run_endRound (P := P) jump hl3
      refine ⟨?_, hl3, World.putObj_heap_same (Array.getElem?_eq_some_iff.1 hl3).1, (World.putObj_heap_other (by omega)).trans (hk3.same _ _ (Nat.le_refl _) hk2 rfl)⟩
      rw [hrc] at e ⊢
      exact e
    rintro e a3 W3 hp
    cases e with
    | normal =>
      obtain ⟨hk3, hkp3, hi3⟩ := hp
      obtain ⟨hr, hl3, hl4, hk4⟩ := fin none W3 hk3
      refine ⟨_, _, hr, .inl ⟨rfl, ⟨hI.turn _ _ _ _ _ _ hi3 (by omega) hl3 rfl, fun k hk => by have := hX k hk; have := hk3.size; simp; omega, hl4, hk4⟩, hwV.trans (hkp3.trans ⟨by simp, fun k hk => World.putObj_heap_other (fun e => by have := hX k hk; omega)⟩)⟩⟩
    | ret =>
      obtain ⟨hk3, hkp3, hi3⟩ := hp
      obtain ⟨hr, hl3, hl4, hk4⟩ := fin (some .ret) W3 hk3
      exact ⟨_, _, hr, .inr ⟨rfl, ⟨hIx.turn X _ _ _ _ _ hi3 (by omega) hl3 rfl, fun k hk => by have := hX k hk; have := hk3.size; simp; omega, hl4, hk4⟩, hwV.trans (hkp3.trans ⟨by simp, fun k hk => World.putObj_heap_other (fun e => by have := hX k hk; omega)⟩)⟩⟩
    | exit id => exact hp.elim
    | goto t => exact hp.elim
    | panic ch => exact hp.elim
    | outgrown => exact hp.elim
  · rintro e W2 ⟨⟨v, rfl⟩, (⟨xs, X, hS, hi, hX, hl, hk⟩ | ⟨pre, X, hSp, hi, hX, hl, hk⟩)⟩
    · exact ⟨none, _, by have := run_endLoop (P := P) hl (by rw [hrc]; simp [rec']); rw [hrc] at this; exact this, hdone _ xs X _ (Nat.le_refl _) hS (hI.turn _ _ _ _ _ _ hi (by omega) hl rfl) ((World.putObj_heap_other (by omega)).trans hk)⟩
    · exact ⟨some .ret, _, by have := run_endLoop (P := P) hl (by rw [hrc]; simp [rec']); rw [hrc] at this; exact this, hstop _ pre _ (Nat.le_refl _) hSp (hIx.turn X _ _ _ _ _ hi (by omega) hl rfl) ((World.putObj_heap_other (by omega)).trans hk)⟩
end Go.Proofs.Ytebnekicbcdnaaa
