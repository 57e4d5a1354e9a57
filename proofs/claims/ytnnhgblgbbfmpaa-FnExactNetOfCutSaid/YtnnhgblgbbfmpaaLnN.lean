/- The memory of the making of a net out of a cut: the net's box, a list of wires and a list of sides, each its own. -/
import Derived.Test.YtnnhgblgbbfmpaaLnI
import Derived.Test.YtnnhgblgbbfmpaaNetB
import Derived.Test.YtnnhgblgbbfmpaaApp
import Derived.Lib.SlicesCompact
set_option linter.all false
namespace Go.Proofs.Ytnnhgblgbbfmpaa
open Go.RowKit

theorem flatW_one (L : List Wi) : ∀ u ∈ flatW L, u.oneCell' = true := by
  induction L with
  | nil => intro u hu; simp [flatW] at hu
  | cons s r ih =>
    intro u hu
    simp only [flatW, List.mem_cons] at hu
    rcases hu with rfl | rfl | hu
    · rfl
    · rfl
    · exact ih u hu
theorem put_grownN (w : World) (a : Addr) (v : Value) : w.grownBy (w.setCell a v) (some a.block) :=
  ⟨rfl, rfl, rfl, by simp, fun k _ hk => Below.heap_setCell _ _ _ k (fun e => hk (by rw [e]))⟩

structure NM (Q : Nat) (w0 wr : World) (N : Int) (A : Option Addr) (n c : Nat) (Lw : List Wi) (A2 : Option Addr) (n2 c2 : Nat) (sd : List Int) : Prop where
  bel : Below Q w0 wr
  box : Nx Q wr N A n c
  fz : ∀ o, wr.frozen? ⟨Q, o, none⟩ = false
  len : n = Lw.length
  len2 : n2 = sd.length
  ws : wr.ownsRow (Q + 1) 86 2 (.slice A n c) n (flatW Lw)
  ss : wr.ownsRow (Q + 1) 3 1 (.slice A2 n2 c2) n2 (ints sd)
  apart : ∀ k, (Value.slice A n c).ownBlock = some k → (Value.slice A2 n2 c2).ownBlock ≠ some k
theorem NM.start (w : World) (N : Int) (t : TypeId) : NM w.heap.size w (w.alloc (.cells #[.int .i64 N, .slice none 0 0] t)) N none 0 0 [] none 0 0 [] :=
  ⟨(Below.refl _ _).alloc (Nat.le_refl _) _, Nx.start w N none 0 0 t, fun o => World.frozen?_alloc_at _ _ _ _ (by simp), rfl, rfl, World.ownsRow_nil _ _ _ _, World.ownsRow_nil _ _ _ _, fun k hk => by cases hk⟩
theorem NM.keep {Q : Nat} {w0 wr w' : World} {N : Int} {A A2 : Option Addr} {n c n2 c2 : Nat} {Lw : List Wi} {sd : List Int} (h : NM Q w0 wr N A n c Lw A2 n2 c2 sd) (hb : Below wr.heap.size wr w') : NM Q w0 w' N A n c Lw A2 n2 c2 sd :=
  ⟨h.bel.trans (hb.mono (Nat.le_of_lt h.box.lt)), h.box.next hb, fun o => (hb.frozen (p := ⟨Q, o, none⟩) h.box.lt).trans (h.fz o), h.len, h.len2, own_keep h.ws hb, own_keep h.ss hb, h.apart⟩
theorem NM.pushW {Q : Nat} {w0 wr w' : World} {N : Int} {A A2 A' : Option Addr} {n c n2 c2 c' : Nat} {Lw : List Wi} {sd : List Int} (h : NM Q w0 wr N A n c Lw A2 n2 c2 sd) {x y : Int}
    (hown : w'.ownsRow (Q + 1) 86 2 (.slice A' (n + 1) c') (n + 1) (flatW Lw ++ [.int .i64 x, .int .i64 y])) (hg : wr.grownBy w' (Value.slice A n c).ownBlock)
    (hv : (Value.slice A' (n + 1) c').ownBlock = (Value.slice A n c).ownBlock ∨ (Value.slice A' (n + 1) c').ownBlock = some wr.heap.size) :
    NM Q w0 (w'.setCell ⟨Q, 1, none⟩ (.slice A' (n + 1) c')) N A' (n + 1) c' (Lw ++ [⟨x, y⟩]) A2 n2 c2 sd := by
  have hq : (Value.slice A n c).ownBlock ≠ some Q := fun e => by have := (h.ws.lt _ e).1; omega
  have hr : ∀ k, (Value.slice A n c).ownBlock = some k → Q ≤ k := fun k hk => by have := (h.ws.lt k hk).1; omega
  have hN := h.box.far hg hq
  have hp := put_grownN w' ⟨Q, 1, none⟩ (.slice A' (n + 1) c')
  refine ⟨(h.bel.grown hg (Nat.le_of_lt h.box.lt) hr).setCell (p := ⟨Q, 1, none⟩) (Nat.le_refl _) _, ⟨Nat.lt_of_lt_of_le hN.lt hp.size, ?_, ?_⟩, fun o => ?_, by rw [List.length_append, ← h.len]; rfl, h.len2, ?_, ?_, fun k hk => ?_⟩
  · simp [go_sem, hN.c0]
  · simp [go_sem, hN.c1]
  · rw [show (w'.setCell ⟨Q, 1, none⟩ (.slice A' (n + 1) c')).frozen? ⟨Q, o, none⟩ = w'.frozen? ⟨Q, o, none⟩ by simp [go_sem]]
    exact (hg.frozen_far ⟨Q, o, none⟩ h.box.lt (fun e => hq e.symm)).trans (h.fz o)
  · rw [flatW_app]
    exact ownsRow_setCell_below hown (a := ⟨Q, 1, none⟩) (Nat.lt_succ_self _) _
  · refine ownsRow_setCell_below (own_far h.ss hg (fun k hk e => ?_)) (a := ⟨Q, 1, none⟩) (Nat.lt_succ_self _) _
    exact h.apart k e hk
  · rcases hv with e | e
    · exact h.apart k (e ▸ hk)
    · intro h2
      have h1 := (h.ss.lt k h2).2
      rw [e] at hk
      have := Option.some.inj hk
      omega
theorem NM.pushS {Q : Nat} {w0 wr w' : World} {N : Int} {A A2 A' : Option Addr} {n c n2 c2 c' : Nat} {Lw : List Wi} {sd : List Int} (h : NM Q w0 wr N A n c Lw A2 n2 c2 sd) {x : Int}
    (hown : w'.ownsRow (Q + 1) 3 1 (.slice A' (n2 + 1) c') (n2 + 1) (ints sd ++ [.int .i64 x])) (hg : wr.grownBy w' (Value.slice A2 n2 c2).ownBlock)
    (hv : (Value.slice A' (n2 + 1) c').ownBlock = (Value.slice A2 n2 c2).ownBlock ∨ (Value.slice A' (n2 + 1) c').ownBlock = some wr.heap.size) :
    NM Q w0 w' N A n c Lw A' (n2 + 1) c' (sd ++ [x]) := by
  have hq : (Value.slice A2 n2 c2).ownBlock ≠ some Q := fun e => by have := (h.ss.lt _ e).1; omega
  have hr : ∀ k, (Value.slice A2 n2 c2).ownBlock = some k → Q ≤ k := fun k hk => by have := (h.ss.lt k hk).1; omega
  refine ⟨h.bel.grown hg (Nat.le_of_lt h.box.lt) hr, h.box.far hg hq, fun o => (hg.frozen_far ⟨Q, o, none⟩ h.box.lt (fun e => hq e.symm)).trans (h.fz o), h.len, by rw [List.length_append, ← h.len2]; rfl, own_far h.ws hg (fun k hk e => h.apart k hk e), ?_, fun k hk => ?_⟩
  · rw [ints_app]
    exact hown
  · rcases hv with e | e
    · rw [e]; exact h.apart k hk
    · intro h2
      have h1 := (h.ws.lt k hk).2
      rw [e] at h2
      have := Option.some.inj h2
      omega
theorem NM.there {Q : Nat} {w0 wr w' : World} {N : Int} {A A2 : Option Addr} {n c n2 c2 : Nat} {Lw : List Wi} {sd : List Int} (h : NM Q w0 wr N A n c Lw A2 n2 c2 sd) (hg : wr.grownBy w' (Value.slice A n c).ownBlock) :
    w'.cell? ⟨Q, 1, none⟩ = some (.slice A n c) ∧ w'.frozen? ⟨Q, 1, none⟩ = false := by
  have hq : (Value.slice A n c).ownBlock ≠ some Q := fun e => by have := (h.ws.lt _ e).1; omega
  exact ⟨(h.box.far hg hq).c1, (hg.frozen_far ⟨Q, 1, none⟩ h.box.lt (fun e => hq e.symm)).trans (h.fz 1)⟩
/-- The copy of a square that a round makes, as a growing list and a store into the net's box leave it. -/
def Cp (D : Nat) (s : Sq) (w : World) : Prop := w.cell? ⟨D, 0, none⟩ = some (.int .i64 s.x) ∧ w.cell? ⟨D, 1, none⟩ = some (.int .i64 s.y) ∧ w.cell? ⟨D, 2, none⟩ = some (.int .i64 s.d)
theorem Cp.grown {D : Nat} {s : Sq} {w w' : World} {row : Option Nat} (h : Cp D s w) (hg : w.grownBy w' row) (hne : row ≠ some D) : Cp D s w' :=
  ⟨hg.cell h.1 (fun e => hne e.symm), hg.cell h.2.1 (fun e => hne e.symm), hg.cell h.2.2 (fun e => hne e.symm)⟩
theorem Cp.put {D Q : Nat} {s : Sq} {w : World} (h : Cp D s w) (hne : Q ≠ D) (o : Nat) (v : Value) : Cp D s (w.setCell ⟨Q, o, none⟩ v) := h.grown (put_grownN w ⟨Q, o, none⟩ v) (fun e => hne (Option.some.inj e))
theorem newW (w : World) (a b : Value) (t : TypeId) : ∀ j u, [a, b][j]? = some u → (w.alloc (.cells #[a, b] t)).cell? ((⟨w.heap.size, 0, none⟩ : Addr).add j) = some u := by
  intro j u hj
  match j, hj with
  | 0, hj => simp at hj; subst hj; simp [Addr.add]
  | 1, hj => simp at hj; subst hj; simp [Addr.add]
theorem oneW (a b : Int) : ∀ u ∈ [Value.int .i64 a, Value.int .i64 b], u.oneCell' = true := by
  intro u hu; simp at hu; rcases hu with rfl | rfl <;> rfl
end Go.Proofs.Ytnnhgblgbbfmpaa
