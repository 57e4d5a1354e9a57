/- The memory of the search for the first turn, and the model's search. -/
import Derived.Test.YtchabjmdjpfkfaaFirstE
set_option linter.all false
namespace Go.Proofs.Ytchabjmdjpfkfaa
open Go.RowKit

def Sb (N P k : Nat) : Prop := k = N ∨ k = N + 1 ∨ k = P
/-- Squares that lie in none of three blocks. -/
def SqsN (w : World) (N P : Nat) (A : Option Addr) (l : List Sq) : Prop :=
  ∀ i s, l[i]? = some s → ∃ b off, A = some ⟨b, off, none⟩ ∧ (b < w.heap.size ∧ ¬ Sb N P b) ∧ w.cell? ⟨b, off + i * 3, none⟩ = some (.int .i64 s.x) ∧ w.cell? ⟨b, off + i * 3 + 1, none⟩ = some (.int .i64 s.y) ∧ w.cell? ⟨b, off + i * 3 + 2, none⟩ = some (.int .i64 s.d)
theorem SqsN.sqs {w : World} {N P : Nat} {A : Option Addr} {l : List Sq} (h : SqsN w N P A l) : SqsAt w w.heap.size A l := fun i s hs => by
  obtain ⟨b, off, e, hb, c0, c1, c2⟩ := h i s hs
  exact ⟨b, off, e, hb.1, c0, c1, c2⟩
theorem SqsN.keep {w w' : World} {N P : Nat} {A : Option Addr} {l : List Sq} (h : SqsN w N P A l) (hb : Below w.heap.size w w') : SqsN w' N P A l := fun i s hs => by
  obtain ⟨b, off, e, ⟨h1, h2⟩, c0, c1, c2⟩ := h i s hs
  exact ⟨b, off, e, ⟨Nat.lt_of_lt_of_le h1 hb.size, h2⟩, (hb.cell (p := ⟨b, _, none⟩) h1).trans c0, (hb.cell (p := ⟨b, _, none⟩) h1).trans c1, (hb.cell (p := ⟨b, _, none⟩) h1).trans c2⟩
theorem SqsN.set {w : World} {N P : Nat} {A : Option Addr} {l : List Sq} (h : SqsN w N P A l) (a : Addr) (v : Value) (ha : Sb N P a.block) : SqsN (w.setCell a v) N P A l := fun i s hs => by
  obtain ⟨b, off, e, ⟨h1, h2⟩, c0, c1, c2⟩ := h i s hs
  have hne : a.block ≠ b := fun k => h2 (k ▸ ha)
  exact ⟨b, off, e, ⟨by simpa using h1, h2⟩, by rw [World.cell?_setCell_far _ _ _ _ hne]; exact c0, by rw [World.cell?_setCell_far _ _ _ _ hne]; exact c1, by rw [World.cell?_setCell_far _ _ _ _ hne]; exact c2⟩
theorem SqsN.old {w : World} {N P : Nat} {A : Option Addr} {l : List Sq} (h : SqsAt w N A l) (hN : N ≤ w.heap.size) (hP : N + 2 ≤ P) : SqsN w N P A l := fun i s hs => by
  obtain ⟨b, off, e, h1, c0, c1, c2⟩ := h i s hs
  exact ⟨b, off, e, ⟨by omega, by unfold Sb; omega⟩, c0, c1, c2⟩
theorem SqsN.own {w : World} {N P base n k : Nat} {A : Option Addr} {l : List Sq} (h : w.ownsRow base 77 3 (.slice A n k) n (flat l)) (hb : ∀ b, (Value.slice A n k).ownBlock = some b → ¬ Sb N P b) : SqsN w N P A l := fun i s hs => by
  obtain ⟨b, off, e, h1, c0, c1, c2⟩ := sqs_of_own h i s hs
  exact ⟨b, off, e, ⟨h1, hb b (by rw [e]; rfl)⟩, c0, c1, c2⟩
/-- A cut in the call's own box, another one in the box P, and a box for the result. -/
structure TB (w : World) (P : Nat) (c b : F.Ct) (wr : World) : Prop where
  below : Below w.heap.size w wr
  hP : w.heap.size + 2 ≤ P
  size : P < wr.heap.size
  cur : ∃ A k, wr.cell? ⟨w.heap.size, 0, none⟩ = some (.int .i64 c.w) ∧ wr.cell? ⟨w.heap.size, 1, none⟩ = some (.int .i64 c.h) ∧ wr.cell? ⟨w.heap.size, 2, none⟩ = some (.slice A c.l.length k) ∧ c.l.length ≤ k ∧ SqsN wr w.heap.size P A c.l
  best : ∃ A k, wr.cell? ⟨P, 0, none⟩ = some (.int .i64 b.w) ∧ wr.cell? ⟨P, 1, none⟩ = some (.int .i64 b.h) ∧ wr.cell? ⟨P, 2, none⟩ = some (.slice A b.l.length k) ∧ wr.ownsRow w.heap.size 77 3 (.slice A b.l.length k) b.l.length (flat b.l) ∧ ∀ g, (Value.slice A b.l.length k).ownBlock = some g → ¬ Sb w.heap.size P g
  res : wr.cell? ⟨w.heap.size + 1, 0, none⟩ = some (.int .i64 0) ∧ wr.cell? ⟨w.heap.size + 1, 1, none⟩ = some (.int .i64 0) ∧ wr.cell? ⟨w.heap.size + 1, 2, none⟩ = some (.slice none 0 0)
  fr : ∀ g o, Sb w.heap.size P g → wr.frozen? ⟨g, o, none⟩ = false
  len : b.l.length ≤ 1048576
theorem TB.lt {w wr : World} {P : Nat} {c b : F.Ct} (h : TB w P c b wr) {g : Nat} (hg : Sb w.heap.size P g) : g < wr.heap.size := by
  have := h.hP
  have := h.size
  unfold Sb at hg
  omega
theorem TB.ge {w wr : World} {P : Nat} {c b : F.Ct} (h : TB w P c b wr) {g : Nat} (hg : Sb w.heap.size P g) : w.heap.size ≤ g := by
  have := h.hP
  unfold Sb at hg
  omega
theorem TB.keep {w wr w' : World} {P : Nat} {c b : F.Ct} (h : TB w P c b wr) (hb : Below wr.heap.size wr w') : TB w P c b w' := by
  have hc : ∀ g o v, Sb w.heap.size P g → wr.cell? ⟨g, o, none⟩ = some v → w'.cell? ⟨g, o, none⟩ = some v := fun g o v hg hv => (hb.cell (p := ⟨g, o, none⟩) (h.lt hg)).trans hv
  have hf : ∀ g o, Sb w.heap.size P g → w'.frozen? ⟨g, o, none⟩ = false := fun g o hg => (hb.frozen (p := ⟨g, o, none⟩) (h.lt hg)).trans (h.fr g o hg)
  obtain ⟨A, k, c0, c1, c2, c3, c4⟩ := h.cur
  obtain ⟨A', k', d0, d1, d2, d3, d4⟩ := h.best
  obtain ⟨r0, r1, r2⟩ := h.res
  have s0 : Sb w.heap.size P w.heap.size := .inl rfl
  have s1 : Sb w.heap.size P (w.heap.size + 1) := .inr (.inl rfl)
  have s2 : Sb w.heap.size P P := .inr (.inr rfl)
  exact ⟨h.below.trans (hb.mono h.below.size), h.hP, Nat.lt_of_lt_of_le h.size hb.size, ⟨A, k, hc _ _ _ s0 c0, hc _ _ _ s0 c1, hc _ _ _ s0 c2, c3, c4.keep hb⟩, ⟨A', k', hc _ _ _ s2 d0, hc _ _ _ s2 d1, hc _ _ _ s2 d2, own_keep d3 hb, d4⟩, ⟨hc _ _ _ s1 r0, hc _ _ _ s1 r1, hc _ _ _ s1 r2⟩, hf, h.len⟩
theorem not_sb {N P base : Nat} {A : Option Addr} {n k : Nat} {xs : List Value} {w : World} (h : w.ownsRow base 77 3 (.slice A n k) n xs) (hN : N + 2 ≤ P) (hb : P < base) : ∀ g, (Value.slice A n k).ownBlock = some g → ¬ Sb N P g := fun g hg => by
  have := (h.lt g hg).1
  unfold Sb
  omega
theorem set3 (w : World) (g : Nat) (a b c : Value) {x y z : Value} (h0 : w.cell? ⟨g, 0, none⟩ = some x) (h1 : w.cell? ⟨g, 1, none⟩ = some y) (h2 : w.cell? ⟨g, 2, none⟩ = some z) :
    let w' := ((w.setCell ⟨g, 0, none⟩ a).setCell ⟨g, 1, none⟩ b).setCell ⟨g, 2, none⟩ c
    w'.cell? ⟨g, 0, none⟩ = some a ∧ w'.cell? ⟨g, 1, none⟩ = some b ∧ w'.cell? ⟨g, 2, none⟩ = some c := by
  refine ⟨?_, ?_, ?_⟩ <;> simp [go_sem, h0, h1, h2]
theorem far3 (w : World) (g : Nat) (a b c : Value) {p : Addr} (h : g ≠ p.block) : (((w.setCell ⟨g, 0, none⟩ a).setCell ⟨g, 1, none⟩ b).setCell ⟨g, 2, none⟩ c).cell? p = w.cell? p := by
  rw [World.cell?_setCell_far _ _ _ _ h, World.cell?_setCell_far _ _ _ _ h, World.cell?_setCell_far _ _ _ _ h]
theorem TB.setCur {w wr : World} {P base n k : Nat} {A : Option Addr} {c b : F.Ct} (h : TB w P c b wr) (X Y : Int) (l : List Sq) (hn : n = l.length) (own : wr.ownsRow base 77 3 (.slice A n k) n (flat l)) (hb : P < base) :
    TB w P ⟨X, Y, l⟩ b (((wr.setCell ⟨w.heap.size, 0, none⟩ (.int .i64 X)).setCell ⟨w.heap.size, 1, none⟩ (.int .i64 Y)).setCell ⟨w.heap.size, 2, none⟩ (.slice A n k)) := by
  subst hn
  obtain ⟨A0, k0, c0, c1, c2, _, _⟩ := h.cur
  obtain ⟨A', k', d0, d1, d2, d3, d4⟩ := h.best
  obtain ⟨r0, r1, r2⟩ := h.res
  have hP := h.hP
  obtain ⟨e0, e1, e2⟩ := set3 wr w.heap.size (.int .i64 X) (.int .i64 Y) (.slice A l.length k) c0 c1 c2
  have s0 : Sb w.heap.size P w.heap.size := .inl rfl
  have nb := not_sb own hP hb
  refine ⟨((h.below.setCell (Nat.le_refl _) _).setCell (Nat.le_refl _) _).setCell (Nat.le_refl _) _, hP, by simpa using h.size, ⟨A, k, e0, e1, e2, own_cap own, (((SqsN.own own nb).set _ _ s0).set _ _ s0).set _ _ s0⟩, ⟨A', k', ?_, ?_, ?_, ?_, d4⟩, ⟨?_, ?_, ?_⟩, fun g o hg => by simpa [go_sem] using h.fr g o hg, h.len⟩
  · rw [far3 _ _ _ _ _ (by show w.heap.size ≠ P; omega)]; exact d0
  · rw [far3 _ _ _ _ _ (by show w.heap.size ≠ P; omega)]; exact d1
  · rw [far3 _ _ _ _ _ (by show w.heap.size ≠ P; omega)]; exact d2
  · have hne : (Value.slice A' b.l.length k').ownBlock ≠ some w.heap.size := fun e => d4 _ e s0
    exact ownsRow_setCell_other (ownsRow_setCell_other (ownsRow_setCell_other d3 hne _) hne _) hne _
  · rw [far3 _ _ _ _ _ (by show w.heap.size ≠ w.heap.size + 1; omega)]; exact r0
  · rw [far3 _ _ _ _ _ (by show w.heap.size ≠ w.heap.size + 1; omega)]; exact r1
  · rw [far3 _ _ _ _ _ (by show w.heap.size ≠ w.heap.size + 1; omega)]; exact r2
theorem TB.setBest {w wr : World} {P n k : Nat} {A : Option Addr} {c b : F.Ct} (h : TB w P c b wr) (X Y : Int) (l : List Sq) (hn : n = l.length) (own : wr.ownsRow w.heap.size 77 3 (.slice A n k) n (flat l)) (nb : ∀ g, (Value.slice A n k).ownBlock = some g → ¬ Sb w.heap.size P g) (hlen : l.length ≤ 1048576) :
    TB w P c ⟨X, Y, l⟩ (((wr.setCell ⟨P, 0, none⟩ (.int .i64 X)).setCell ⟨P, 1, none⟩ (.int .i64 Y)).setCell ⟨P, 2, none⟩ (.slice A n k)) := by
  subst hn
  obtain ⟨A0, k0, c0, c1, c2, c3, c4⟩ := h.cur
  obtain ⟨A', k', d0, d1, d2, d3, d4⟩ := h.best
  obtain ⟨r0, r1, r2⟩ := h.res
  have hP := h.hP
  obtain ⟨e0, e1, e2⟩ := set3 wr P (.int .i64 X) (.int .i64 Y) (.slice A l.length k) d0 d1 d2
  have s2 : Sb w.heap.size P P := .inr (.inr rfl)
  refine ⟨((h.below.setCell (by show w.heap.size ≤ P; omega) _).setCell (by show w.heap.size ≤ P; omega) _).setCell (by show w.heap.size ≤ P; omega) _, hP, by simpa using h.size, ⟨A0, k0, ?_, ?_, ?_, c3, ((c4.set _ _ s2).set _ _ s2).set _ _ s2⟩, ⟨A, k, e0, e1, e2, ?_, nb⟩, ⟨?_, ?_, ?_⟩, fun g o hg => by simpa [go_sem] using h.fr g o hg, hlen⟩
  · rw [far3 _ _ _ _ _ (by show P ≠ w.heap.size; omega)]; exact c0
  · rw [far3 _ _ _ _ _ (by show P ≠ w.heap.size; omega)]; exact c1
  · rw [far3 _ _ _ _ _ (by show P ≠ w.heap.size; omega)]; exact c2
  · have hne : (Value.slice A l.length k).ownBlock ≠ some P := fun e => nb _ e s2
    exact ownsRow_setCell_other (ownsRow_setCell_other (ownsRow_setCell_other own hne _) hne _) hne _
  · rw [far3 _ _ _ _ _ (by show P ≠ w.heap.size + 1; omega)]; exact r0
  · rw [far3 _ _ _ _ _ (by show P ≠ w.heap.size + 1; omega)]; exact r1
  · rw [far3 _ _ _ _ _ (by show P ≠ w.heap.size + 1; omega)]; exact r2
end Go.Proofs.Ytchabjmdjpfkfaa
