/- The memory of the merging of sides to lines. -/
import Derived.Test.YtnnhgblgbbfmpaaLnS
set_option linter.all false
namespace Go.Proofs.Ytnnhgblgbbfmpaa
open Go.RowKit

theorem InRows.sub {w : World} {base : Nat} {R S : List Rw} (h : InRows w base R) (hs : S.Sublist R) : InRows w base S :=
  ⟨fun r hr => h.own r (hs.subset hr), h.apart.sublist hs⟩
theorem Away.sub {v : Value} {R S : List Rw} (h : Away v R) (hs : S.Sublist R) : Away v S := fun r hr => h r (hs.subset hr)
theorem own_numbers {w : World} {base g n c : Nat} {l : List Int} (h : w.ownsRow base 3 1 (.slice (some ⟨g, 0, none⟩) n c) n (ints l)) {j : Nat} (hj : j < n) (z : Int) :
    (w.setCell ⟨g, j, none⟩ (.int .i64 z)).ownsRow base 3 1 (.slice (some ⟨g, 0, none⟩) n c) n (ints (l.set j z)) := by
  have := (h.stored j (.int .i64 z)).1
  have e : ints (l.set j z) = (ints l).set j (.int .i64 z) := by unfold ints; rw [List.map_set]
  rw [e]
  exact this
/-- One number of one row is set. -/
theorem InRows.put {w : World} {base g c : Nat} {P S : List Rw} {l : List Int} (h : InRows w base (P ++ ⟨some ⟨g, 0, none⟩, c, l⟩ :: S)) {j : Nat} (hj : j < l.length) (z : Int) :
    InRows (w.setCell ⟨g, j, none⟩ (.int .i64 z)) base (P ++ ⟨some ⟨g, 0, none⟩, c, l.set j z⟩ :: S) := by
  have hap := h.apart
  refine ⟨fun s hs => ?_, ?_⟩
  · rcases List.mem_append.1 hs with hs' | hs'
    · have hin : s ∈ P ++ (⟨some ⟨g, 0, none⟩, c, l⟩ : Rw) :: S := List.mem_append.2 (.inl hs')
      refine ownsRow_setCell_other (h.own s hin) (fun e => ?_) _
      exact (List.pairwise_append.1 hap).2.2 s hs' _ List.mem_cons_self g e rfl
    · rcases List.mem_cons.1 hs' with rfl | hs''
      · have := own_numbers (h.own _ (List.mem_append.2 (.inr List.mem_cons_self))) hj z
        simp only [Rw.val, List.length_set] at this ⊢
        exact this
      · have hin : s ∈ P ++ (⟨some ⟨g, 0, none⟩, c, l⟩ : Rw) :: S := List.mem_append.2 (.inr (List.mem_cons.2 (.inr hs'')))
        refine ownsRow_setCell_other (h.own s hin) (fun e => ?_) _
        exact (List.pairwise_cons.1 (List.pairwise_append.1 hap).2.1).1 s hs'' g rfl e
  · have e : vals (P ++ (⟨some ⟨g, 0, none⟩, c, l.set j z⟩ : Rw) :: S) = vals (P ++ (⟨some ⟨g, 0, none⟩, c, l⟩ : Rw) :: S) := by simp [vals, Rw.val]
    have h1 : (vals (P ++ (⟨some ⟨g, 0, none⟩, c, l⟩ : Rw) :: S)).Pairwise fun u v => ∀ k, u.ownBlock = some k → v.ownBlock ≠ some k := List.pairwise_map.2 hap
    rw [← e] at h1
    exact List.pairwise_map.1 h1
theorem Away.put {v : Value} {g c : Nat} {P S : List Rw} {l l' : List Int} (h : Away v (P ++ ⟨some ⟨g, 0, none⟩, c, l⟩ :: S)) : Away v (P ++ ⟨some ⟨g, 0, none⟩, c, l'⟩ :: S) := by
  intro s hs k hk
  rcases List.mem_append.1 hs with hs | hs
  · exact h s (List.mem_append.2 (.inl hs)) k hk
  · rcases List.mem_cons.1 hs with rfl | hs
    · exact h _ (List.mem_append.2 (.inr List.mem_cons_self)) k hk
    · exact h s (List.mem_append.2 (.inr (List.mem_cons.2 (.inr hs)))) k hk
/-- The sorted sides in the block G, the lines so far, and the sides that are left. -/
structure MgM (w : World) (base G n c : Nat) (T : List Rw) (k : Nat) (A7 : Option Addr) (n7 c7 : Nat) (R : List Rw) : Prop where
  len : n = T.length
  len7 : n7 = R.length
  outT : w.ownsRow base 52 1 (.slice (some ⟨G, 0, none⟩) n c) n (vals T)
  outR : w.ownsRow base 52 1 (.slice A7 n7 c7) n7 (vals R)
  inner : InRows w base (R ++ T.drop k)
  awayT : Away (.slice (some ⟨G, 0, none⟩) n c) (R ++ T.drop k)
  awayR : Away (.slice A7 n7 c7) (R ++ T.drop k)
  apart : (Value.slice A7 n7 c7).ownBlock ≠ some G
theorem MgM.start {w : World} {base G n c : Nat} {T : List Rw} (h : OwnSS w base (some ⟨G, 0, none⟩) n c T) : MgM w base G n c T 0 none 0 0 [] :=
  ⟨h.len, rfl, h.outer, World.ownsRow_nil _ _ _ _, by simpa using h.inner, by simpa using h.away, fun r _ k _ e => (by cases e), fun e => (by cases e)⟩
theorem MgM.done {w : World} {base G n c n7 c7 : Nat} {T R : List Rw} {A7 : Option Addr} (h : MgM w base G n c T n A7 n7 c7 R) : OwnSS w base A7 n7 c7 R := by
  have e : R ++ T.drop n = R := by rw [h.len, List.drop_length, List.append_nil]
  exact ⟨h.len7, h.outR, e ▸ h.inner, e ▸ h.awayR⟩
theorem drop_at {α : Type} {T : List α} {k : Nat} {t : α} (ht : T[k]? = some t) : T.drop k = t :: T.drop (k + 1) := by
  have h := List.getElem?_eq_some_iff.1 ht
  rw [List.drop_eq_getElem_cons h.1, h.2]
theorem MgM.lastBlk {w : World} {base G n c k n7 c7 : Nat} {T R1 : List Rw} {l : Rw} {A7 : Option Addr} (h : MgM w base G n c T k A7 n7 c7 (R1 ++ [l])) (hl : 0 < l.L.length) : ∃ g, l.A = some ⟨g, 0, none⟩ ∧ g < w.heap.size ∧ base ≤ g := by
  have ho := h.inner.own l (by simp)
  obtain ⟨g, hg⟩ := own_form ho hl
  have := ho.lt g (by unfold Rw.val; rw [hg]; rfl)
  exact ⟨g, hg, this.2, this.1⟩
/-- A line is made longer. -/
theorem MgM.merge {w : World} {base G n c k n7 c7 g cl : Nat} {T R1 : List Rw} {l : List Int} {t : Rw} {A7 : Option Addr} (h : MgM w base G n c T k A7 n7 c7 (R1 ++ [⟨some ⟨g, 0, none⟩, cl, l⟩])) (ht : T[k]? = some t) {j : Nat} (hj : j < l.length) (z : Int) :
    MgM (w.setCell ⟨g, j, none⟩ (.int .i64 z)) base G n c T (k + 1) A7 n7 c7 (R1 ++ [⟨some ⟨g, 0, none⟩, cl, l.set j z⟩]) := by
  have hd := drop_at ht
  have hsub : (R1 ++ (⟨some ⟨g, 0, none⟩, cl, l⟩ : Rw) :: T.drop (k + 1)).Sublist (R1 ++ [⟨some ⟨g, 0, none⟩, cl, l⟩] ++ T.drop k) := by
    rw [hd, List.append_assoc]
    exact List.Sublist.append (List.Sublist.refl _) (List.Sublist.cons_cons _ (List.Sublist.cons _ (List.Sublist.refl _)))
  have hin := (h.inner.sub hsub).put hj z
  have e : R1 ++ [(⟨some ⟨g, 0, none⟩, cl, l.set j z⟩ : Rw)] ++ T.drop (k + 1) = R1 ++ (⟨some ⟨g, 0, none⟩, cl, l.set j z⟩ : Rw) :: T.drop (k + 1) := by simp
  have hv : vals (R1 ++ [(⟨some ⟨g, 0, none⟩, cl, l.set j z⟩ : Rw)]) = vals (R1 ++ [(⟨some ⟨g, 0, none⟩, cl, l⟩ : Rw)]) := by simp [vals, Rw.val]
  have hm : (⟨some ⟨g, 0, none⟩, cl, l⟩ : Rw) ∈ R1 ++ [⟨some ⟨g, 0, none⟩, cl, l⟩] ++ T.drop k := by simp
  refine ⟨h.len, by rw [h.len7]; simp, ?_, ?_, by rw [e]; exact hin, by rw [e]; exact (h.awayT.sub hsub).put, by rw [e]; exact (h.awayR.sub hsub).put, h.apart⟩
  · exact ownsRow_setCell_other h.outT (fun q => h.awayT _ hm g rfl q) _
  · rw [hv]
    exact ownsRow_setCell_other h.outR (fun q => h.awayR _ hm g rfl q) _
/-- A line more. -/
theorem MgM.add {w w' : World} {base G n c k n7 c7 : Nat} {T R : List Rw} {t : Rw} {A7 : Option Addr} {v' : Value} (h : MgM w base G n c T k A7 n7 c7 R) (ht : T[k]? = some t)
    (hout : w'.ownsRow base 52 1 v' (n7 + 1) (vals R ++ [t.val])) (hg : w.grownBy w' (Value.slice A7 n7 c7).ownBlock) (hv : v'.ownBlock = (Value.slice A7 n7 c7).ownBlock ∨ v'.ownBlock = some w.heap.size) :
    ∃ A' c', v' = .slice A' (n7 + 1) c' ∧ MgM w' base G n c T (k + 1) A' (n7 + 1) c' (R ++ [t]) := by
  have e : R ++ [t] ++ T.drop (k + 1) = R ++ T.drop k := by rw [drop_at ht]; simp
  obtain ⟨A', c', rfl⟩ := own_val hout
  have hin := h.inner.grown h.awayR hg
  have hG := (h.outT.lt G rfl).2
  refine ⟨A', c', rfl, h.len, by simp [h.len7], ?_, by rw [vals_app]; exact hout, by rw [e]; exact hin, by rw [e]; exact h.awayT, ?_, ?_⟩
  · exact own_blk h.outT fun q hq => hg.block q (h.outT.lt q hq).2 (fun e' => by cases hq; exact h.apart e'.symm)
  · rw [e]
    refine h.awayR.other h.inner ?_
    rcases hv with q | q
    · exact .inl q
    · exact .inr ⟨_, q, Nat.le_refl _⟩
  · intro q
    rcases hv with q' | q'
    · rw [q'] at q; exact h.apart q
    · rw [q'] at q; cases q; exact Nat.lt_irrefl _ hG
theorem MgM.keep {w w' : World} {base G n c k n7 c7 : Nat} {T R : List Rw} {A7 : Option Addr} (h : MgM w base G n c T k A7 n7 c7 R) (hb : Below w.heap.size w w') : MgM w' base G n c T k A7 n7 c7 R :=
  ⟨h.len, h.len7, own_keep h.outT hb, own_keep h.outR hb, h.inner.below hb (Nat.le_refl _), h.awayT, h.awayR, h.apart⟩
end Go.Proofs.Ytnnhgblgbbfmpaa
