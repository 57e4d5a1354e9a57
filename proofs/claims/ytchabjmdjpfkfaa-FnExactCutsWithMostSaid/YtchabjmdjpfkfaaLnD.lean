/- LinesDown of the program. -/
import Derived.Test.YtchabjmdjpfkfaaJoinG
import Derived.Test.YtchabjmdjpfkfaaApp
import Derived.Shelf.SlicesQ.IndexFunc
import Derived.Ground.SlgfProg
namespace Go.Proofs
open Go.Shelf
shelf_lay_g SlLaysH0.n8 Slgf 8 at Try 59 as Ytchabjmdjpfkfaa.contSq
end Go.Proofs
set_option linter.all false
namespace Go.Proofs.Ytchabjmdjpfkfaa
open Go.RowKit Go.Shelf Go.Lib

def encS (s : Sq) : List Value := [.int .i64 s.x, .int .i64 s.y, .int .i64 s.d]
/-- The square goes through the place. -/
def thrB (x : Int) (s : Sq) : Bool := decide (s.x < x) && decide (x < IntKind.i64.wrap (s.x + s.d))
theorem thr_free {W H x : Int} {L : List Sq} (hF : Fill W H L) : L.any (thrB x) = !dc (J.FreeX L x) := by
  have key : L.any (thrB x) = true ↔ ¬ J.FreeX L x := by
    rw [List.any_eq_true]
    constructor
    · rintro ⟨s, hs, h⟩ hf
      have hw := hF.within s hs
      have hW := hF.w
      unfold Within at hw
      have e : IntKind.i64.wrap (s.x + s.d) = s.x + s.d := IntWalk.i64_in _ (by omega)
      simp only [thrB, e, Bool.and_eq_true, decide_eq_true_eq] at h
      have := hf s hs
      omega
    · intro h
      unfold J.FreeX at h
      rw [Classical.not_forall] at h
      obtain ⟨s, h⟩ := h
      rw [Classical.not_imp] at h
      obtain ⟨hs, h⟩ := h
      have hw := hF.within s hs
      have hW := hF.w
      unfold Within at hw
      have e : IntKind.i64.wrap (s.x + s.d) = s.x + s.d := IntWalk.i64_in _ (by omega)
      refine ⟨s, hs, ?_⟩
      simp only [thrB, e, Bool.and_eq_true, decide_eq_true_eq]
      omega
  by_cases hf : J.FreeX L x
  · rw [dc_true hf, Bool.not_true, ← Bool.not_eq_true]
    exact fun k => key.1 k hf
  · rw [dc_false hf, Bool.not_false]
    exact key.2 hf
theorem new1d (w : World) (a : Value) (t : TypeId) : ∀ j u, [a][j]? = some u → (w.alloc (.cells #[a] t)).cell? ((⟨w.heap.size, 0, none⟩ : Addr).add j) = some u := by
  intro j u hj
  match j, hj with
  | 0, hj => simp at hj; subst hj; simp [Addr.add]
theorem one1d (r : Int) : ∀ u ∈ [Value.int .i64 r], u.oneCell' = true := by
  intro u hu; simp at hu; subst hu; rfl
/-- The memory of the search for lines. -/
structure LM (B : Nat) (W1 wr : World) (v : Value) (g : Nat) (x : Int) (R : List Int) : Prop where
  bel : Below B W1 wr
  g0 : B ≤ g
  gl : g < wr.heap.size
  cx : wr.cell? ⟨g, 0, none⟩ = some (.int .i64 x)
  fx : wr.frozen? ⟨g, 0, none⟩ = false
  own : wr.ownsRow B 3 1 v R.length (ints R)
  ne : ∀ k, v.ownBlock = some k → k ≠ g
theorem LM.keep {B : Nat} {W1 wr w' : World} {v : Value} {g : Nat} {x : Int} {R : List Int} (h : LM B W1 wr v g x R) (hb : Below wr.heap.size wr w') : LM B W1 w' v g x R :=
  ⟨h.bel.trans (hb.mono (Nat.le_trans h.g0 (Nat.le_of_lt h.gl))), h.g0, Nat.lt_of_lt_of_le h.gl hb.size, (hb.cell (p := ⟨g, 0, none⟩) h.gl).trans h.cx, (hb.frozen (p := ⟨g, 0, none⟩) h.gl).trans h.fx, own_keep h.own hb, h.ne⟩
theorem LM.push {B : Nat} {W1 wr wa w6 : World} {v v' : Value} {g : Nat} {x y : Int} {R : List Int} (h : LM B W1 wr v g x R) (hb : Below wr.heap.size wr wa) (hg : wa.grownBy w6 v.ownBlock) (ho : w6.ownsRow B 3 1 v' (R.length + 1) (ints R ++ [.int .i64 y])) (hv : v'.ownBlock = v.ownBlock ∨ v'.ownBlock = some wa.heap.size) : LM B W1 w6 v' g x (R ++ [y]) := by
  have h2 := h.keep hb
  have hne : ∀ k, v.ownBlock = some k → k ≠ g := h.ne
  refine ⟨h2.bel.grown hg (Nat.le_trans h2.g0 (Nat.le_of_lt h2.gl)) (fun k hk => (h2.own.lt k hk).1), h.g0, Nat.lt_of_lt_of_le h2.gl hg.size, hg.cell h2.cx (fun e => hne _ e.symm rfl), ?_, ?_, fun k hk => ?_⟩
  · exact (hg.frozen_far ⟨g, 0, none⟩ h2.gl (fun e => hne _ e.symm rfl)).trans h2.fx
  · rw [List.length_append, ints_app]; exact ho
  · rcases hv with e | e
    · exact hne k (e ▸ hk)
    · rw [e] at hk; cases hk
      have := h2.gl
      omega
theorem LM.fresh {B : Nat} {W1 wr : World} {v : Value} {g : Nat} {x : Int} {R : List Int} (h : LM B W1 wr v g x R) (y : Int) (t : TypeId) : LM B W1 (wr.alloc (.cells #[.int .i64 y] t)) v wr.heap.size y R := by
  have hb : Below wr.heap.size wr (wr.alloc (.cells #[.int .i64 y] t)) := (Below.refl _ _).alloc (Nat.le_refl _) _
  have h2 := h.keep hb
  refine ⟨h2.bel, Nat.le_trans h.g0 (Nat.le_of_lt h.gl), by simp, by simp, World.frozen?_alloc_at _ _ _ _ rfl, h2.own, fun k hk => ?_⟩
  have := (h.own.lt k hk).2
  omega

end Go.Proofs.Ytchabjmdjpfkfaa
