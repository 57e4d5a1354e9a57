/- FirstE, FirstF, FirstH, FirstI: texts in one. -/
import Derived.Test.YtdpbjmdgjhleeaaFirstD
set_option linter.all false
namespace Go.Proofs.Ytdpbjmdgjhleeaa
open Go.RowKit

theorem src_sqsF {w : World} {B : Nat} {A : Option Addr} {n c : Nat} {L : List Sq} (hl : L.length = n) (hn : 1 ≤ n) (hL : SqsAt w B A L) : Src w A n c (flat L) := by
  obtain ⟨s0, h0⟩ : ∃ s, L[0]? = some s := ⟨_, List.getElem?_eq_getElem (by omega)⟩
  obtain ⟨b, off, rfl, _, _⟩ := hL 0 s0 h0
  refine .inr ⟨_, rfl, fun j u hu => ?_⟩
  have hj : j < L.length * 3 := by have := (List.getElem?_eq_some_iff.1 hu).1; rwa [flat_len] at this
  obtain ⟨s, hs⟩ : ∃ s, L[j / 3]? = some s := ⟨_, List.getElem?_eq_getElem (by omega)⟩
  obtain ⟨b, off, e, _, c0, c1, c2⟩ := hL (j / 3) s hs
  have f := flat_get L (j / 3) s hs
  cases e
  rw [add_at]
  rcases (by omega : j % 3 = 0 ∨ j % 3 = 1 ∨ j % 3 = 2) with h | h | h
  · rw [show j = j / 3 * 3 by omega] at hu ⊢
    rw [f.1] at hu
    rw [← hu]; exact c0
  · rw [show j = j / 3 * 3 + 1 by omega] at hu ⊢
    rw [f.2.1] at hu
    rw [← hu]; exact c1
  · rw [show j = j / 3 * 3 + 2 by omega] at hu ⊢
    rw [f.2.2] at hu
    rw [← hu]; exact c2
/-- It returns a cut in memory of the call's own. -/
def RetC (w : World) (X Y : Int) (L : List Sq) (e : Ending) (w' : World) : Prop :=
  ∃ A c, e = .returned (.agg #[.int .i64 X, .int .i64 Y, .slice A L.length c]) ∧ w'.ownsRow w.heap.size 85 3 (.slice A L.length c) L.length (flat L) ∧ Below w.heap.size w w'

set_option maxRecDepth 100000 in
set_option maxHeartbeats 4000000 in
theorem cuOwn_any (W H : Int) (A : Option Addr) (n c : Nat) (L : List Sq) (w : World) (hl : L.length = n) (hn1 : 1 ≤ n) (hn : n ≤ 30) (hL : SqsAt w w.heap.size A L) :
    Calls Try.prog 104 #[.agg #[.int .i64 W, .int .i64 H, .slice A n c]] w (RetC w W H L) := by
  subst hl
  obtain ⟨i0, hi, hz0, hz1, hz2⟩ := info_parts infoSq
  obtain ⟨W1, hW1⟩ : ∃ W1, W1 = (w.alloc (.cells #[.int .i64 W, .int .i64 H, .slice A L.length c] 28)).alloc (.cells #[.int .i64 0, .int .i64 0, .slice none 0 0] 28) := ⟨_, rfl⟩
  have hB1 : Below w.heap.size w W1 := by rw [hW1]; exact ((Below.refl _ _).alloc (Nat.le_refl _) _).alloc (by simp) _
  have hzz : W1.heap.size = w.heap.size + 2 := by rw [hW1]; simp
  have b0 : W1.cell? ⟨w.heap.size, 0, none⟩ = some (.int .i64 W) := by rw [hW1]; simp [go_sem]
  have b1 : W1.cell? ⟨w.heap.size, 1, none⟩ = some (.int .i64 H) := by rw [hW1]; simp [go_sem]
  have b2 : W1.cell? ⟨w.heap.size, 2, none⟩ = some (.slice A L.length c) := by rw [hW1]; simp [go_sem]
  have r0 : W1.cell? ⟨w.heap.size + 1, 0, none⟩ = some (.int .i64 0) := by rw [hW1]; simp [go_sem]
  have r1 : W1.cell? ⟨w.heap.size + 1, 1, none⟩ = some (.int .i64 0) := by rw [hW1]; simp [go_sem]
  have r2 : W1.cell? ⟨w.heap.size + 1, 2, none⟩ = some (.slice none 0 0) := by rw [hW1]; simp [go_sem]
  have qf : ∀ b o, w.heap.size ≤ b → b < w.heap.size + 2 → W1.frozen? ⟨b, o, none⟩ = false := by
    intro b o h1 h2
    rw [hW1]
    by_cases e : b = w.heap.size
    · subst e
      rw [World.frozen?_alloc_past _ _ _ (by simp)]
      exact World.frozen?_alloc_at _ _ _ _ rfl
    · exact World.frozen?_alloc_at _ _ _ _ (by simp; omega)
  have hsrc : Src (W1.alloc (.cells #[] 85)) A L.length c (flat L) := src_sqsF (B := w.heap.size) rfl hn1 (hL.below (hB1.alloc hB1.size _))
  have hfl : (flat L).length = L.length * 3 := flat_len L
  have HFL := Lib.hid hfl
  have HSR := Lib.hid hsrc
  have hzw : w.heap.size < W1.heap.size := by omega
  have hzw1 : w.heap.size + 1 < W1.heap.size := by omega
  clear hfl hsrc hL
  have own0 : (W1.alloc (.cells #[] 85)).ownsRow (w.heap.size + 1 + 1) 85 3 (.slice (some ⟨w.heap.size + 1 + 1, 0, none⟩) 0 0) 0 [] := by
    have := World.ownsRow_lit (e := 85) (size := 3) W1 #[] 0 (Nat.le_refl _) (Nat.zero_le _) rfl
    rw [hzz] at this
    exact this
  go_enter Try.func104, Try.ntmps104
  go_wp2_with (at_builtin; rw [← hW1]; refine app_list rfl _ _ _ rfl (w.heap.size + 1 + 1) 85 i0 (.agg #[.int .i64 0, .int .i64 0, .int .i64 0]) 3 24 Try.underlying26 hi hz0 hz1 hz2 rfl (by decide) (.slice (some ⟨w.heap.size + 1 + 1, 0, none⟩) 0 0) 0 [] rfl own0 A L.length c (flat L) rfl HFL.out HSR.out (flat_one _) (app_room (Nat.zero_le _) hn).1 (app_room (Nat.zero_le _) hn).2 (by simp; omega) ?_; intro v' w2 hown hgr _; obtain ⟨A1, c1, rfl⟩ := own_val hown; simp only [Nat.zero_add, List.nil_append] at hown; have hb2 : Below (w.heap.size + 2) W1 w2 := ((Below.refl (w.heap.size + 2) W1).alloc (by omega) _).grown hgr (by simp; omega) (fun kk hkk => by simp [Value.ownBlock] at hkk; omega); have b0 := (hb2.cell (p := ⟨w.heap.size, 0, none⟩) (by simp)).trans b0; have b1 := (hb2.cell (p := ⟨w.heap.size, 1, none⟩) (by simp)).trans b1; have b2 := (hb2.cell (p := ⟨w.heap.size, 2, none⟩) (by simp)).trans b2; have f2 := (hb2.frozen (p := ⟨w.heap.size, 2, none⟩) (by simp)).trans (qf w.heap.size 2 (by omega) (by omega)); have r0 := (hb2.cell (p := ⟨w.heap.size + 1, 0, none⟩) (by simp)).trans r0; have r1 := (hb2.cell (p := ⟨w.heap.size + 1, 1, none⟩) (by simp)).trans r1; have r2 := (hb2.cell (p := ⟨w.heap.size + 1, 2, none⟩) (by simp)).trans r2; have g0 := (hb2.frozen (p := ⟨w.heap.size + 1, 0, none⟩) (by simp)).trans (qf (w.heap.size + 1) 0 (by omega) (by omega)); have g1 := (hb2.frozen (p := ⟨w.heap.size + 1, 1, none⟩) (by simp)).trans (qf (w.heap.size + 1) 1 (by omega) (by omega)); have g2 := (hb2.frozen (p := ⟨w.heap.size + 1, 2, none⟩) (by simp)).trans (qf (w.heap.size + 1) 2 (by omega) (by omega)))
  have hBE := ((((hB1.trans (hb2.mono (by omega))).setCell (p := ⟨w.heap.size, 2, none⟩) (by simp) (.slice A1 L.length c1)).setCell (p := ⟨w.heap.size + 1, 0, none⟩) (by simp) (.int .i64 W)).setCell (p := ⟨w.heap.size + 1, 1, none⟩) (by simp) (.int .i64 H)).setCell (p := ⟨w.heap.size + 1, 2, none⟩) (by simp) (.slice A1 L.length c1)
  have R := ownsRow_setCell_below (ownsRow_setCell_below (ownsRow_setCell_below (ownsRow_setCell_below hown (a := ⟨w.heap.size, 2, none⟩) (by simp; omega) (.slice A1 L.length c1)) (a := ⟨w.heap.size + 1, 0, none⟩) (by simp) (.int .i64 W)) (a := ⟨w.heap.size + 1, 1, none⟩) (by simp) (.int .i64 H)) (a := ⟨w.heap.size + 1, 2, none⟩) (by simp) (.slice A1 L.length c1)
  refine bodyPost_ret (v := .agg #[.int .i64 W, .int .i64 H, .slice A1 L.length c1]) (by simp [results, Try.results104, go_sem, r0, r1, r2]) rfl ?_
  exact ⟨A1, c1, rfl, own_base R (by omega), hBE⟩
end Go.Proofs.Ytdpbjmdgjhleeaa
namespace Go.Proofs.Ytdpbjmdgjhleeaa
open Go.RowKit

def Sb (N P k : Nat) : Prop := k = N ∨ k = N + 1 ∨ k = P
/-- Squares that lie in none of three blocks. -/
def SqsN (w : World) (N P : Nat) (A : Option Addr) (l : List Sq) : Prop :=
  ∀ i s, l[i]? = some s → ∃ b off, A = some ⟨b, off, none⟩ ∧ (b < w.heap.size ∧ ¬ Sb N P b) ∧ w.cell? ⟨b, off + i * 3, none⟩ = some (.int .i64 s.x) ∧ w.cell? ⟨b, off + i * 3 + 1, none⟩ = some (.int .i64 s.y) ∧ w.cell? ⟨b, off + i * 3 + 2, none⟩ = some (.int .i64 s.d)
theorem SqsN.sqs {w : World} {N P : Nat} {A : Option Addr} {l : List Sq} (h : SqsN w N P A l) : SqsAt w w.heap.size A l := fun i s hs => by
  obtain ⟨b, off, e, hb, c0, c1, c2⟩ := h i s hs
  exact ⟨b, off, e, hb.1, c0, c1, c2⟩
theorem SqsN.keep {w w' : World} {N P : Nat} {A : Option Addr} {l : List Sq} (h : SqsN w N P A l) (hb : Below w.heap.size w w') : SqsN w' N P A l := fun i s hs => by
  obtain ⟨b, off, e, ⟨h1, h2⟩, c0, c1, c2⟩ := h i s hs
  exact ⟨b, off, e, ⟨Nat.lt_of_lt_of_le h1 hb.size, h2⟩, (hb.cell (p := ⟨b, _, none⟩) h1).trans c0, (hb.cell (p := ⟨b, _, none⟩) h1).trans c1, (hb.cell (p := ⟨b, _, none⟩) h1).trans c2⟩
theorem SqsN.set {w : World} {N P : Nat} {A : Option Addr} {l : List Sq} (h : SqsN w N P A l) (a : Addr) (v : Value) (ha : Sb N P a.block) : SqsN (w.setCell a v) N P A l := fun i s hs => by
  obtain ⟨b, off, e, ⟨h1, h2⟩, c0, c1, c2⟩ := h i s hs
  have hne : a.block ≠ b := fun k => h2 (k ▸ ha)
  exact ⟨b, off, e, ⟨by simpa using h1, h2⟩, by rw [World.cell?_setCell_far _ _ _ _ hne]; exact c0, by rw [World.cell?_setCell_far _ _ _ _ hne]; exact c1, by rw [World.cell?_setCell_far _ _ _ _ hne]; exact c2⟩
theorem SqsN.old {w : World} {N P : Nat} {A : Option Addr} {l : List Sq} (h : SqsAt w N A l) (hN : N ≤ w.heap.size) (hP : N + 2 ≤ P) : SqsN w N P A l := fun i s hs => by
  obtain ⟨b, off, e, h1, c0, c1, c2⟩ := h i s hs
  exact ⟨b, off, e, ⟨by omega, by unfold Sb; omega⟩, c0, c1, c2⟩
theorem SqsN.own {w : World} {N P base n k : Nat} {A : Option Addr} {l : List Sq} (h : w.ownsRow base 85 3 (.slice A n k) n (flat l)) (hb : ∀ b, (Value.slice A n k).ownBlock = some b → ¬ Sb N P b) : SqsN w N P A l := fun i s hs => by
  obtain ⟨b, off, e, h1, c0, c1, c2⟩ := sqs_of_own h i s hs
  exact ⟨b, off, e, ⟨h1, hb b (by rw [e]; rfl)⟩, c0, c1, c2⟩
/-- A cut in the call's own box, another one in the box P, and a box for the result. -/
structure TB (w : World) (P : Nat) (c b : F.Ct) (wr : World) : Prop where
  below : Below w.heap.size w wr
  hP : w.heap.size + 2 ≤ P
  size : P < wr.heap.size
  cur : ∃ A k, wr.cell? ⟨w.heap.size, 0, none⟩ = some (.int .i64 c.w) ∧ wr.cell? ⟨w.heap.size, 1, none⟩ = some (.int .i64 c.h) ∧ wr.cell? ⟨w.heap.size, 2, none⟩ = some (.slice A c.l.length k) ∧ c.l.length ≤ k ∧ SqsN wr w.heap.size P A c.l
  best : ∃ A k, wr.cell? ⟨P, 0, none⟩ = some (.int .i64 b.w) ∧ wr.cell? ⟨P, 1, none⟩ = some (.int .i64 b.h) ∧ wr.cell? ⟨P, 2, none⟩ = some (.slice A b.l.length k) ∧ wr.ownsRow w.heap.size 85 3 (.slice A b.l.length k) b.l.length (flat b.l) ∧ ∀ g, (Value.slice A b.l.length k).ownBlock = some g → ¬ Sb w.heap.size P g
  res : wr.cell? ⟨w.heap.size + 1, 0, none⟩ = some (.int .i64 0) ∧ wr.cell? ⟨w.heap.size + 1, 1, none⟩ = some (.int .i64 0) ∧ wr.cell? ⟨w.heap.size + 1, 2, none⟩ = some (.slice none 0 0)
  fr : ∀ g o, Sb w.heap.size P g → wr.frozen? ⟨g, o, none⟩ = false
  len : b.l.length ≤ 1048576
theorem TB.lt {w wr : World} {P : Nat} {c b : F.Ct} (h : TB w P c b wr) {g : Nat} (hg : Sb w.heap.size P g) : g < wr.heap.size := by
  have := h.hP
  have := h.size
  unfold Sb at hg
  omega
theorem TB.ge {w wr : World} {P : Nat} {c b : F.Ct} (h : TB w P c b wr) {g : Nat} (hg : Sb w.heap.size P g) : w.heap.size ≤ g := by
  have := h.hP
  unfold Sb at hg
  omega
theorem TB.keep {w wr w' : World} {P : Nat} {c b : F.Ct} (h : TB w P c b wr) (hb : Below wr.heap.size wr w') : TB w P c b w' := by
  have hc : ∀ g o v, Sb w.heap.size P g → wr.cell? ⟨g, o, none⟩ = some v → w'.cell? ⟨g, o, none⟩ = some v := fun g o v hg hv => (hb.cell (p := ⟨g, o, none⟩) (h.lt hg)).trans hv
  have hf : ∀ g o, Sb w.heap.size P g → w'.frozen? ⟨g, o, none⟩ = false := fun g o hg => (hb.frozen (p := ⟨g, o, none⟩) (h.lt hg)).trans (h.fr g o hg)
  obtain ⟨A, k, c0, c1, c2, c3, c4⟩ := h.cur
  obtain ⟨A', k', d0, d1, d2, d3, d4⟩ := h.best
  obtain ⟨r0, r1, r2⟩ := h.res
  have s0 : Sb w.heap.size P w.heap.size := .inl rfl
  have s1 : Sb w.heap.size P (w.heap.size + 1) := .inr (.inl rfl)
  have s2 : Sb w.heap.size P P := .inr (.inr rfl)
  exact ⟨h.below.trans (hb.mono h.below.size), h.hP, Nat.lt_of_lt_of_le h.size hb.size, ⟨A, k, hc _ _ _ s0 c0, hc _ _ _ s0 c1, hc _ _ _ s0 c2, c3, c4.keep hb⟩, ⟨A', k', hc _ _ _ s2 d0, hc _ _ _ s2 d1, hc _ _ _ s2 d2, own_keep d3 hb, d4⟩, ⟨hc _ _ _ s1 r0, hc _ _ _ s1 r1, hc _ _ _ s1 r2⟩, hf, h.len⟩
theorem not_sb {N P base : Nat} {A : Option Addr} {n k : Nat} {xs : List Value} {w : World} (h : w.ownsRow base 85 3 (.slice A n k) n xs) (hN : N + 2 ≤ P) (hb : P < base) : ∀ g, (Value.slice A n k).ownBlock = some g → ¬ Sb N P g := fun g hg => by
  have := (h.lt g hg).1
  unfold Sb
  omega
theorem set3 (w : World) (g : Nat) (a b c : Value) {x y z : Value} (h0 : w.cell? ⟨g, 0, none⟩ = some x) (h1 : w.cell? ⟨g, 1, none⟩ = some y) (h2 : w.cell? ⟨g, 2, none⟩ = some z) :
    let w' := ((w.setCell ⟨g, 0, none⟩ a).setCell ⟨g, 1, none⟩ b).setCell ⟨g, 2, none⟩ c
    w'.cell? ⟨g, 0, none⟩ = some a ∧ w'.cell? ⟨g, 1, none⟩ = some b ∧ w'.cell? ⟨g, 2, none⟩ = some c := by
  refine ⟨?_, ?_, ?_⟩ <;> simp [go_sem, h0, h1, h2]
theorem far3 (w : World) (g : Nat) (a b c : Value) {p : Addr} (h : g ≠ p.block) : (((w.setCell ⟨g, 0, none⟩ a).setCell ⟨g, 1, none⟩ b).setCell ⟨g, 2, none⟩ c).cell? p = w.cell? p := by
  rw [World.cell?_setCell_far _ _ _ _ h, World.cell?_setCell_far _ _ _ _ h, World.cell?_setCell_far _ _ _ _ h]
theorem TB.setCur {w wr : World} {P base n k : Nat} {A : Option Addr} {c b : F.Ct} (h : TB w P c b wr) (X Y : Int) (l : List Sq) (hn : n = l.length) (own : wr.ownsRow base 85 3 (.slice A n k) n (flat l)) (hb : P < base) :
    TB w P ⟨X, Y, l⟩ b (((wr.setCell ⟨w.heap.size, 0, none⟩ (.int .i64 X)).setCell ⟨w.heap.size, 1, none⟩ (.int .i64 Y)).setCell ⟨w.heap.size, 2, none⟩ (.slice A n k)) := by
  subst hn
  obtain ⟨A0, k0, c0, c1, c2, _, _⟩ := h.cur
  obtain ⟨A', k', d0, d1, d2, d3, d4⟩ := h.best
  obtain ⟨r0, r1, r2⟩ := h.res
  have hP := h.hP
  obtain ⟨e0, e1, e2⟩ := set3 wr w.heap.size (.int .i64 X) (.int .i64 Y) (.slice A l.length k) c0 c1 c2
  have s0 : Sb w.heap.size P w.heap.size := .inl rfl
  have nb := not_sb own hP hb
  refine ⟨((h.below.setCell (Nat.le_refl _) _).setCell (Nat.le_refl _) _).setCell (Nat.le_refl _) _, hP, by simpa using h.size, ⟨A, k, e0, e1, e2, own_cap own, (((SqsN.own own nb).set _ _ s0).set _ _ s0).set _ _ s0⟩, ⟨A', k', ?_, ?_, ?_, ?_, d4⟩, ⟨?_, ?_, ?_⟩, fun g o hg => by simpa [go_sem] using h.fr g o hg, h.len⟩
  · rw [far3 _ _ _ _ _ (by show w.heap.size ≠ P; omega)]; exact d0
  · rw [far3 _ _ _ _ _ (by show w.heap.size ≠ P; omega)]; exact d1
  · rw [far3 _ _ _ _ _ (by show w.heap.size ≠ P; omega)]; exact d2
  · have hne : (Value.slice A' b.l.length k').ownBlock ≠ some w.heap.size := fun e => d4 _ e s0
    exact ownsRow_setCell_other (ownsRow_setCell_other (ownsRow_setCell_other d3 hne _) hne _) hne _
  · rw [far3 _ _ _ _ _ (by show w.heap.size ≠ w.heap.size + 1; omega)]; exact r0
  · rw [far3 _ _ _ _ _ (by show w.heap.size ≠ w.heap.size + 1; omega)]; exact r1
  · rw [far3 _ _ _ _ _ (by show w.heap.size ≠ w.heap.size + 1; omega)]; exact r2
theorem TB.setBest {w wr : World} {P n k : Nat} {A : Option Addr} {c b : F.Ct} (h : TB w P c b wr) (X Y : Int) (l : List Sq) (hn : n = l.length) (own : wr.ownsRow w.heap.size 85 3 (.slice A n k) n (flat l)) (nb : ∀ g, (Value.slice A n k).ownBlock = some g → ¬ Sb w.heap.size P g) (hlen : l.length ≤ 1048576) :
    TB w P c ⟨X, Y, l⟩ (((wr.setCell ⟨P, 0, none⟩ (.int .i64 X)).setCell ⟨P, 1, none⟩ (.int .i64 Y)).setCell ⟨P, 2, none⟩ (.slice A n k)) := by
  subst hn
  obtain ⟨A0, k0, c0, c1, c2, c3, c4⟩ := h.cur
  obtain ⟨A', k', d0, d1, d2, d3, d4⟩ := h.best
  obtain ⟨r0, r1, r2⟩ := h.res
  have hP := h.hP
  obtain ⟨e0, e1, e2⟩ := set3 wr P (.int .i64 X) (.int .i64 Y) (.slice A l.length k) d0 d1 d2
  have s2 : Sb w.heap.size P P := .inr (.inr rfl)
  refine ⟨((h.below.setCell (by show w.heap.size ≤ P; omega) _).setCell (by show w.heap.size ≤ P; omega) _).setCell (by show w.heap.size ≤ P; omega) _, hP, by simpa using h.size, ⟨A0, k0, ?_, ?_, ?_, c3, ((c4.set _ _ s2).set _ _ s2).set _ _ s2⟩, ⟨A, k, e0, e1, e2, ?_, nb⟩, ⟨?_, ?_, ?_⟩, fun g o hg => by simpa [go_sem] using h.fr g o hg, hlen⟩
  · rw [far3 _ _ _ _ _ (by show P ≠ w.heap.size; omega)]; exact c0
  · rw [far3 _ _ _ _ _ (by show P ≠ w.heap.size; omega)]; exact c1
  · rw [far3 _ _ _ _ _ (by show P ≠ w.heap.size; omega)]; exact c2
  · have hne : (Value.slice A l.length k).ownBlock ≠ some P := fun e => nb _ e s2
    exact ownsRow_setCell_other (ownsRow_setCell_other (ownsRow_setCell_other own hne _) hne _) hne _
  · rw [far3 _ _ _ _ _ (by show P ≠ w.heap.size + 1; omega)]; exact r0
  · rw [far3 _ _ _ _ _ (by show P ≠ w.heap.size + 1; omega)]; exact r1
  · rw [far3 _ _ _ _ _ (by show P ≠ w.heap.size + 1; omega)]; exact r2
end Go.Proofs.Ytdpbjmdgjhleeaa
namespace Go.Proofs.Ytdpbjmdgjhleeaa
open Go.RowKit

/-- A cut in memory of the call's own, of which this holds. -/
def RetF (w : World) (Q : F.Ct → Prop) (e : Ending) (w' : World) : Prop :=
  ∃ A k b, e = .returned (.agg #[.int .i64 b.w, .int .i64 b.h, .slice A b.l.length k]) ∧ Q b ∧ w'.ownsRow w.heap.size 85 3 (.slice A b.l.length k) b.l.length (flat b.l) ∧ Below w.heap.size w w'
/-- The cut at hand in the m-th round of a turn. -/
def cm (c : F.Ct) (m : Nat) : F.Ct := if m = 1 then F.mC c else c

set_option maxRecDepth 100000 in
set_option maxHeartbeats 8000000 in
theorem cuTurns_any (W H : Int) (A : Option Addr) (n c : Nat) (L : List Sq) (w : World) (hl : L.length = n) (hc : n ≤ c) (hL : SqsAt w w.heap.size A L) (hG : Good W H L) :
    Calls Try.prog 55 #[.agg #[.int .i64 W, .int .i64 H, .slice A n c]] w (RetF w (F.BestO (F.SM ⟨W, H, L⟩ 4 0) true)) := by
  subst hl
  obtain ⟨C0, hC0⟩ : ∃ C0 : F.Ct, C0 = ⟨W, H, L⟩ := ⟨_, rfl⟩
  have hGC : F.GoodC C0 := by rw [hC0]; exact hG
  obtain ⟨W1, hW1⟩ : ∃ W1, W1 = ((w.alloc (.cells #[.int .i64 W, .int .i64 H, .slice A L.length c] 28)).alloc (.cells #[.int .i64 0, .int .i64 0, .slice none 0 0] 28)).alloc (.cells #[.int .i64 0, .int .i64 0, .slice none 0 0] 28) := ⟨_, rfl⟩
  have hB1 : Below w.heap.size w W1 := by rw [hW1]; exact (((Below.refl _ _).alloc (Nat.le_refl _) _).alloc (by simp) _).alloc (by simp; omega) _
  have hz1 : W1.heap.size = w.heap.size + 3 := by rw [hW1]; simp
  have T1 : TB w (w.heap.size + 2) C0 ⟨0, 0, []⟩ W1 := by
    refine ⟨hB1, Nat.le_refl _, by omega, ⟨A, c, ?_, ?_, ?_, by rw [hC0]; exact hc, by rw [hC0]; exact SqsN.old (hL.below hB1) (by omega) (Nat.le_refl _)⟩, ⟨none, 0, ?_, ?_, ?_, World.ownsRow_nil _ _ _ _, fun g hg => by cases hg⟩, ⟨?_, ?_, ?_⟩, fun g o hg => ?_, by simp⟩
    · rw [hC0, hW1]; simp [go_sem]
    · rw [hC0, hW1]; simp [go_sem]
    · rw [hC0, hW1]; simp [go_sem]
    · rw [hW1]; simp [go_sem]
    · rw [hW1]; simp [go_sem]
    · rw [hW1]; simp [go_sem]
    · rw [hW1]; simp [go_sem]
    · rw [hW1]; simp [go_sem]
    · rw [hW1]; simp [go_sem]
    · rw [hW1]
      rcases hg with rfl | rfl | rfl
      · rw [World.frozen?_alloc_past _ _ _ (by simp; omega), World.frozen?_alloc_past _ _ _ (by simp)]
        exact World.frozen?_alloc_at _ _ _ _ rfl
      · rw [World.frozen?_alloc_past _ _ _ (by simp)]
        exact World.frozen?_alloc_at _ _ _ _ (by simp)
      · exact World.frozen?_alloc_at _ _ _ _ (by simp)
  have HGC := Lib.hid hGC
  have HG0 := Lib.hid hC0
  rw [← hC0]
  clear hGC hG hL hC0
  go_enter Try.func55, Try.ntmps55
  go_wp2_with fail
  rw [← hW1]
  clear hW1
  go_wp2_with fail
  go_loopw [4, 5] (fun f t wr => ∃ (i : Nat) (found : Bool) (b : F.Ct), i ≤ 4 ∧ t = .int .i64 i ∧ f = .bool found ∧ F.BestO (F.SM C0 i 0) found b ∧ TB w (w.heap.size + 2) (F.it i C0) b wr) (fun _ t _ => 4 - (intOf t).toNat)
  case atStart => exact ⟨0, false, _, Nat.zero_le _, rfl, rfl, .inr ⟨rfl, F.SM_none C0⟩, T1⟩
  case round =>
    clear T1 hB1 hz1
    obtain ⟨i, found, b, hi, rfl, rfl, hBO, hT⟩ := hrel
    have HBO := Lib.hid hBO
    have HT := Lib.hid hT
    clear hBO hT
    by_cases hlt : i < 4
    · have hlti : (i : Int) < 4 := by omega
      have hltd : decide ((i : Int) < 4) = true := decide_eq_true hlti
      go_wp2_with fail
      go_loopw [4, 6] (fun f t wr => ∃ (j : Nat) (found : Bool) (b : F.Ct), j ≤ 2 ∧ t = .int .i64 j ∧ f = .bool found ∧ F.BestO (F.SM C0 i j) found b ∧ TB w (w.heap.size + 2) (cm (F.it i C0) j) b wr) (fun _ t _ => 2 - (intOf t).toNat)
      case atStart => exact ⟨0, found, b, Nat.zero_le _, rfl, rfl, HBO.out, HT.out⟩
      case round =>
        clear HBO HT
        obtain ⟨j, found, b, hj, rfl, rfl, hBO, hT⟩ := hrel
        by_cases hltj : j < 2
        · obtain ⟨x, hx⟩ : ∃ x, cm (F.it i C0) j = x := ⟨_, rfl⟩
          have hGx : Good x.w x.h x.l := by
            show F.GoodC x
            rw [← hx]
            unfold cm
            split
            · exact F.good_m (F.good_it HGC.out i)
            · exact F.good_it HGC.out i
          have hwx : x.w = (F.it i C0).w ∧ x.h = (F.it i C0).h := by
            rw [← hx]
            unfold cm
            split <;> exact ⟨rfl, rfl⟩
          have hmx : F.mC x = cm (F.it i C0) (j + 1) := by
            rw [← hx]
            unfold cm
            rcases (by omega : j = 0 ∨ j = 1) with rfl | rfl
            · rfl
            · simp only [if_pos]
              rw [F.mC_mC (F.good_it HGC.out i)]
              rfl
          have hyes : x.h ≤ x.w → ∀ y, (F.SM C0 i j y ∨ y = x) ↔ F.SM C0 i (j + 1) y := by
            rw [hwx.1, hwx.2, ← hx]
            unfold cm
            intro hh y
            rcases (by omega : j = 0 ∨ j = 1) with rfl | rfl
            · exact F.SM_one hh y
            · exact F.SM_two hh y
          have hno : ¬ x.h ≤ x.w → ∀ y, F.SM C0 i j y ↔ F.SM C0 i (j + 1) y := by
            rw [hwx.1, hwx.2]
            intro hh y
            exact (F.SM_skip (m := j) hh y).symm.trans (F.SM_skip (m := j + 1) hh y)
          rw [hx] at hT
          have hG30 := hGx.2.2.1
          have HYES := Lib.hid hyes
          have HNO := Lib.hid hno
          have HMX := Lib.hid hmx
          have HBO := Lib.hid hBO
          have HGX := Lib.hid hGx
          have hwb : x.w ≤ 500 ∧ x.h ≤ 500 := ⟨hGx.1.2, hGx.2.1.2⟩
          obtain ⟨Ac, kc, c0, c1, c2, hkc, hSc⟩ := id hT.cur
          obtain ⟨Ab, kb, d0, d1, d2, hob, hnb⟩ := id hT.best
          have f00 := hT.fr w.heap.size 0 (.inl rfl)
          have f01 := hT.fr w.heap.size 1 (.inl rfl)
          have f02 := hT.fr w.heap.size 2 (.inl rfl)
          have g00 := hT.fr (w.heap.size + 2) 0 (.inr (.inr rfl))
          have g01 := hT.fr (w.heap.size + 2) 1 (.inr (.inr rfl))
          have g02 := hT.fr (w.heap.size + 2) 2 (.inr (.inr rfl))
          have hz := hT.size
          have hzN : w.heap.size < wr.heap.size := by omega
          have hSC := hSc.sqs
          have HSC := Lib.hid hSC
          have HOB := Lib.hid hob
          have HT := Lib.hid hT
          clear hx hwx hyes hno hmx hBO hGx hSc hSC hob hnb hT
          by_cases hwide : x.h ≤ x.w
          · cases found with
            | false =>
              go_wp2_with fail
              (with_reducible refine (cuOwn_any x.w x.h Ac _ kc x.l wr rfl (by omega) (by omega) (HSC.out)).mono ?_)
              rintro e w3 ⟨A3, k3, rfl, ho3, hb3⟩
              have T3 := HT.out.keep hb3
              have hP3 : w.heap.size + 2 < wr.heap.size := (HT.out).size
              have HT3 := Lib.hid T3
              have HO3 := Lib.hid ho3
              clear c0 c1 c2 d0 d1 d2 f00 f01 f02 g00 g01 g02 hz hzN hkc
              clear ho3 hb3
              obtain ⟨Ac, kc, c0, c1, c2, hkc, hSc⟩ := id (T3).cur
              obtain ⟨Ab, kb, d0, d1, d2, hob, hnb⟩ := id (T3).best
              have f00 := (T3).fr w.heap.size 0 (.inl rfl)
              have f01 := (T3).fr w.heap.size 1 (.inl rfl)
              have f02 := (T3).fr w.heap.size 2 (.inl rfl)
              have g00 := (T3).fr (w.heap.size + 2) 0 (.inr (.inr rfl))
              have g01 := (T3).fr (w.heap.size + 2) 1 (.inr (.inr rfl))
              have g02 := (T3).fr (w.heap.size + 2) 2 (.inr (.inr rfl))
              have hz := (T3).size
              have hzN : w.heap.size < w3.heap.size := by omega
              have HS3 := Lib.hid hSc
              clear T3 hSc hob hnb
              go_wp2_with fail
              have T4 := HT3.out.setBest x.w x.h x.l rfl (own_base HO3.out (by omega)) (not_sb HO3.out (Nat.le_refl _) hP3) (by omega)
              have hS4 := ((HS3.out.set ⟨w.heap.size + 2, 0, none⟩ (.int .i64 x.w) (.inr (.inr rfl))).set ⟨w.heap.size + 2, 1, none⟩ (.int .i64 x.h) (.inr (.inr rfl))).set ⟨w.heap.size + 2, 2, none⟩ (.slice A3 x.l.length k3) (.inr (.inr rfl))
              obtain ⟨W4, hW4⟩ : ∃ W4, W4 = ((w3.setCell ⟨w.heap.size + 2, 0, none⟩ (.int .i64 x.w)).setCell ⟨w.heap.size + 2, 1, none⟩ (.int .i64 x.h)).setCell ⟨w.heap.size + 2, 2, none⟩ (.slice A3 x.l.length k3) := ⟨_, rfl⟩
              rw [← hW4] at T4 hS4 ⊢
              clear hW4
              (with_reducible refine (cuMirror_any x.w x.h Ac _ kc x.l W4 rfl hkc (hS4.sqs) HGX.out).mono ?_)
              rintro e w5 ⟨A5, k5, Tl, rfl, hp, hs, ho5, hb5⟩
              obtain rfl := srt_uniq hp hs ((fill_mir (good_fill HGX.out)).dist)
              have T5 := T4.keep hb5
              have HT5 := Lib.hid T5
              have HO5 := Lib.hid ho5
              have hPz : w.heap.size + 2 < W4.heap.size := (T4).size
              clear c0 c1 c2 d0 d1 d2 f00 f01 f02 g00 g01 g02 hz hzN hkc
              clear hp hs ho5 hb5
              obtain ⟨Ac, kc, c0, c1, c2, hkc, hSc⟩ := id (T5).cur
              obtain ⟨Ab, kb, d0, d1, d2, hob, hnb⟩ := id (T5).best
              have f00 := (T5).fr w.heap.size 0 (.inl rfl)
              have f01 := (T5).fr w.heap.size 1 (.inl rfl)
              have f02 := (T5).fr w.heap.size 2 (.inl rfl)
              have g00 := (T5).fr (w.heap.size + 2) 0 (.inr (.inr rfl))
              have g01 := (T5).fr (w.heap.size + 2) 1 (.inr (.inr rfl))
              have g02 := (T5).fr (w.heap.size + 2) 2 (.inr (.inr rfl))
              have hz := (T5).size
              have hzN : w.heap.size < w5.heap.size := by omega
              clear T5 hSc hob hnb
              go_wp2_with fail
              go_roundw
              case rel =>
                exact ⟨j + 1, true, _, by omega, by go_num, rfl, (HBO.out.first).congr (HYES.out hwide), by rw [← HMX.out]; exact HT5.out.setCur x.w x.h (srt (mirL x.w x.l)) (srt_len _).symm HO5.out hPz⟩
              case measure => simp [intOf]; omega
            | true =>
              by_cases hlq : F.ltQ x.l b.l
              · have CF := callB_yes (cuFirst_any x.w x.h b.w b.h Ac Ab _ _ kc kb x.l b.l wr rfl rfl (by omega) HT.out.len HSC.out (sqs_of_own HOB.out)) hlq
                have HLQ := Lib.hid hlq
                clear hlq
                go_wp2_with fail
                (with_reducible refine CF.mono ?_)
                rintro e w2 ⟨rfl, hb2⟩
                have T2 := HT.out.keep hb2
                clear c0 c1 c2 d0 d1 d2 f00 f01 f02 g00 g01 g02 hz hzN hkc
                clear CF hb2
                obtain ⟨Ac, kc, c0, c1, c2, hkc, hSc⟩ := id (T2).cur
                obtain ⟨Ab, kb, d0, d1, d2, hob, hnb⟩ := id (T2).best
                have f00 := (T2).fr w.heap.size 0 (.inl rfl)
                have f01 := (T2).fr w.heap.size 1 (.inl rfl)
                have f02 := (T2).fr w.heap.size 2 (.inl rfl)
                have g00 := (T2).fr (w.heap.size + 2) 0 (.inr (.inr rfl))
                have g01 := (T2).fr (w.heap.size + 2) 1 (.inr (.inr rfl))
                have g02 := (T2).fr (w.heap.size + 2) 2 (.inr (.inr rfl))
                have hz := (T2).size
                have hzN : w.heap.size < w2.heap.size := by omega
                go_wp2_with fail
                (with_reducible refine (cuOwn_any x.w x.h Ac _ kc x.l w2 rfl (by omega) (by omega) (hSc.sqs)).mono ?_)
                rintro e w3 ⟨A3, k3, rfl, ho3, hb3⟩
                have T3 := T2.keep hb3
                have hP3 : w.heap.size + 2 < w2.heap.size := (T2).size
                have HT3 := Lib.hid T3
                have HO3 := Lib.hid ho3
                clear c0 c1 c2 d0 d1 d2 f00 f01 f02 g00 g01 g02 hz hzN hkc
                clear ho3 hb3
                obtain ⟨Ac, kc, c0, c1, c2, hkc, hSc⟩ := id (T3).cur
                obtain ⟨Ab, kb, d0, d1, d2, hob, hnb⟩ := id (T3).best
                have f00 := (T3).fr w.heap.size 0 (.inl rfl)
                have f01 := (T3).fr w.heap.size 1 (.inl rfl)
                have f02 := (T3).fr w.heap.size 2 (.inl rfl)
                have g00 := (T3).fr (w.heap.size + 2) 0 (.inr (.inr rfl))
                have g01 := (T3).fr (w.heap.size + 2) 1 (.inr (.inr rfl))
                have g02 := (T3).fr (w.heap.size + 2) 2 (.inr (.inr rfl))
                have hz := (T3).size
                have hzN : w.heap.size < w3.heap.size := by omega
                have HS3 := Lib.hid hSc
                clear T3 hSc hob hnb
                go_wp2_with fail
                have T4 := HT3.out.setBest x.w x.h x.l rfl (own_base HO3.out (by omega)) (not_sb HO3.out (Nat.le_refl _) hP3) (by omega)
                have hS4 := ((HS3.out.set ⟨w.heap.size + 2, 0, none⟩ (.int .i64 x.w) (.inr (.inr rfl))).set ⟨w.heap.size + 2, 1, none⟩ (.int .i64 x.h) (.inr (.inr rfl))).set ⟨w.heap.size + 2, 2, none⟩ (.slice A3 x.l.length k3) (.inr (.inr rfl))
                obtain ⟨W4, hW4⟩ : ∃ W4, W4 = ((w3.setCell ⟨w.heap.size + 2, 0, none⟩ (.int .i64 x.w)).setCell ⟨w.heap.size + 2, 1, none⟩ (.int .i64 x.h)).setCell ⟨w.heap.size + 2, 2, none⟩ (.slice A3 x.l.length k3) := ⟨_, rfl⟩
                rw [← hW4] at T4 hS4 ⊢
                clear hW4
                (with_reducible refine (cuMirror_any x.w x.h Ac _ kc x.l W4 rfl hkc (hS4.sqs) HGX.out).mono ?_)
                rintro e w5 ⟨A5, k5, Tl, rfl, hp, hs, ho5, hb5⟩
                obtain rfl := srt_uniq hp hs ((fill_mir (good_fill HGX.out)).dist)
                have T5 := T4.keep hb5
                have HT5 := Lib.hid T5
                have HO5 := Lib.hid ho5
                have hPz : w.heap.size + 2 < W4.heap.size := (T4).size
                clear c0 c1 c2 d0 d1 d2 f00 f01 f02 g00 g01 g02 hz hzN hkc
                clear hp hs ho5 hb5
                obtain ⟨Ac, kc, c0, c1, c2, hkc, hSc⟩ := id (T5).cur
                obtain ⟨Ab, kb, d0, d1, d2, hob, hnb⟩ := id (T5).best
                have f00 := (T5).fr w.heap.size 0 (.inl rfl)
                have f01 := (T5).fr w.heap.size 1 (.inl rfl)
                have f02 := (T5).fr w.heap.size 2 (.inl rfl)
                have g00 := (T5).fr (w.heap.size + 2) 0 (.inr (.inr rfl))
                have g01 := (T5).fr (w.heap.size + 2) 1 (.inr (.inr rfl))
                have g02 := (T5).fr (w.heap.size + 2) 2 (.inr (.inr rfl))
                have hz := (T5).size
                have hzN : w.heap.size < w5.heap.size := by omega
                clear T5 hSc hob hnb
                go_wp2_with fail
                go_roundw
                case rel =>
                  exact ⟨j + 1, true, _, by omega, by go_num, rfl, (HBO.out.yes HLQ.out).congr (HYES.out hwide), by rw [← HMX.out]; exact HT5.out.setCur x.w x.h (srt (mirL x.w x.l)) (srt_len _).symm HO5.out hPz⟩
                case measure => simp [intOf]; omega
              · have CF := callB_no (cuFirst_any x.w x.h b.w b.h Ac Ab _ _ kc kb x.l b.l wr rfl rfl (by omega) HT.out.len HSC.out (sqs_of_own HOB.out)) hlq
                have HLQ := Lib.hid hlq
                clear hlq
                go_wp2_with fail
                (with_reducible refine CF.mono ?_)
                rintro e w2 ⟨rfl, hb2⟩
                have T2 := HT.out.keep hb2
                clear c0 c1 c2 d0 d1 d2 f00 f01 f02 g00 g01 g02 hz hzN hkc
                clear CF hb2
                obtain ⟨Ac, kc, c0, c1, c2, hkc, hSc⟩ := id (T2).cur
                obtain ⟨Ab, kb, d0, d1, d2, hob, hnb⟩ := id (T2).best
                have f00 := (T2).fr w.heap.size 0 (.inl rfl)
                have f01 := (T2).fr w.heap.size 1 (.inl rfl)
                have f02 := (T2).fr w.heap.size 2 (.inl rfl)
                have g00 := (T2).fr (w.heap.size + 2) 0 (.inr (.inr rfl))
                have g01 := (T2).fr (w.heap.size + 2) 1 (.inr (.inr rfl))
                have g02 := (T2).fr (w.heap.size + 2) 2 (.inr (.inr rfl))
                have hz := (T2).size
                have hzN : w.heap.size < w2.heap.size := by omega
                go_wp2_with fail
                (with_reducible refine (cuMirror_any x.w x.h Ac _ kc x.l w2 rfl hkc (hSc.sqs) HGX.out).mono ?_)
                rintro e w5 ⟨A5, k5, Tl, rfl, hp, hs, ho5, hb5⟩
                obtain rfl := srt_uniq hp hs ((fill_mir (good_fill HGX.out)).dist)
                have T5 := T2.keep hb5
                have HT5 := Lib.hid T5
                have HO5 := Lib.hid ho5
                have hPz : w.heap.size + 2 < w2.heap.size := (T2).size
                clear c0 c1 c2 d0 d1 d2 f00 f01 f02 g00 g01 g02 hz hzN hkc
                clear hp hs ho5 hb5
                obtain ⟨Ac, kc, c0, c1, c2, hkc, hSc⟩ := id (T5).cur
                obtain ⟨Ab, kb, d0, d1, d2, hob, hnb⟩ := id (T5).best
                have f00 := (T5).fr w.heap.size 0 (.inl rfl)
                have f01 := (T5).fr w.heap.size 1 (.inl rfl)
                have f02 := (T5).fr w.heap.size 2 (.inl rfl)
                have g00 := (T5).fr (w.heap.size + 2) 0 (.inr (.inr rfl))
                have g01 := (T5).fr (w.heap.size + 2) 1 (.inr (.inr rfl))
                have g02 := (T5).fr (w.heap.size + 2) 2 (.inr (.inr rfl))
                have hz := (T5).size
                have hzN : w.heap.size < w5.heap.size := by omega
                clear T5 hSc hob hnb
                go_wp2_with fail
                go_roundw
                case rel =>
                  exact ⟨j + 1, true, _, by omega, by go_num, rfl, (HBO.out.no HLQ.out).congr (HYES.out hwide), by rw [← HMX.out]; exact HT5.out.setCur x.w x.h (srt (mirL x.w x.l)) (srt_len _).symm HO5.out hPz⟩
                case measure => simp [intOf]; omega
          · go_wp2_with fail
            (with_reducible refine (cuMirror_any x.w x.h Ac _ kc x.l wr rfl hkc (HSC.out) HGX.out).mono ?_)
            rintro e w5 ⟨A5, k5, Tl, rfl, hp, hs, ho5, hb5⟩
            obtain rfl := srt_uniq hp hs ((fill_mir (good_fill HGX.out)).dist)
            have T5 := HT.out.keep hb5
            have HT5 := Lib.hid T5
            have HO5 := Lib.hid ho5
            have hPz : w.heap.size + 2 < wr.heap.size := (HT.out).size
            clear c0 c1 c2 d0 d1 d2 f00 f01 f02 g00 g01 g02 hz hzN hkc
            clear hp hs ho5 hb5
            obtain ⟨Ac, kc, c0, c1, c2, hkc, hSc⟩ := id (T5).cur
            obtain ⟨Ab, kb, d0, d1, d2, hob, hnb⟩ := id (T5).best
            have f00 := (T5).fr w.heap.size 0 (.inl rfl)
            have f01 := (T5).fr w.heap.size 1 (.inl rfl)
            have f02 := (T5).fr w.heap.size 2 (.inl rfl)
            have g00 := (T5).fr (w.heap.size + 2) 0 (.inr (.inr rfl))
            have g01 := (T5).fr (w.heap.size + 2) 1 (.inr (.inr rfl))
            have g02 := (T5).fr (w.heap.size + 2) 2 (.inr (.inr rfl))
            have hz := (T5).size
            have hzN : w.heap.size < w5.heap.size := by omega
            clear T5 hSc hob hnb
            go_wp2_with fail
            go_roundw
            case rel =>
              exact ⟨j + 1, found, _, by omega, by go_num, rfl, (HBO.out).congr (HNO.out hwide), by rw [← HMX.out]; exact HT5.out.setCur x.w x.h (srt (mirL x.w x.l)) (srt_len _).symm HO5.out hPz⟩
            case measure => simp [intOf]; omega
        · obtain rfl : j = 2 := by omega
          have hGx : Good (F.it i C0).w (F.it i C0).h (F.it i C0).l := F.good_it HGC.out i
          obtain ⟨x, hx⟩ : ∃ x, F.it i C0 = x := ⟨_, rfl⟩
          have hT : TB w (w.heap.size + 2) (F.it i C0) b wr := hT
          have hnx : F.it (i + 1) C0 = F.tC x := by rw [← hx]; rfl
          rw [hx] at hT hGx
          have hwb : x.w ≤ 500 ∧ x.h ≤ 500 := ⟨hGx.1.2, hGx.2.1.2⟩
          have HNX := Lib.hid hnx
          have HBO := Lib.hid hBO
          have HGX := Lib.hid hGx
          clear hx hnx hBO hGx
          obtain ⟨Ac, kc, c0, c1, c2, hkc, hSc⟩ := id (hT).cur
          obtain ⟨Ab, kb, d0, d1, d2, hob, hnb⟩ := id (hT).best
          have f00 := (hT).fr w.heap.size 0 (.inl rfl)
          have f01 := (hT).fr w.heap.size 1 (.inl rfl)
          have f02 := (hT).fr w.heap.size 2 (.inl rfl)
          have g00 := (hT).fr (w.heap.size + 2) 0 (.inr (.inr rfl))
          have g01 := (hT).fr (w.heap.size + 2) 1 (.inr (.inr rfl))
          have g02 := (hT).fr (w.heap.size + 2) 2 (.inr (.inr rfl))
          have hz := (hT).size
          have hzN : w.heap.size < wr.heap.size := by omega
          have HT := Lib.hid hT
          have HSC := Lib.hid hSc
          clear hT hSc hob hnb
          go_wp2_with fail
          (with_reducible refine (cuTurn_any x.w x.h Ac _ kc x.l wr rfl hkc HSC.out.sqs HGX.out).mono ?_)
          rintro e w5 ⟨A5, k5, Tl, rfl, hp, hs, ho5, hb5⟩
          obtain rfl := srt_uniq hp hs ((fill_turn (good_fill HGX.out)).dist)
          have T5 := HT.out.keep hb5
          have HT5 := Lib.hid T5
          have HO5 := Lib.hid ho5
          clear c0 c1 c2 d0 d1 d2 f00 f01 f02 g00 g01 g02 hz hzN hkc
          clear hp hs ho5 hb5
          have hPz : w.heap.size + 2 < wr.heap.size := HT.out.size
          obtain ⟨Ac, kc, c0, c1, c2, hkc, hSc⟩ := id (T5).cur
          obtain ⟨Ab, kb, d0, d1, d2, hob, hnb⟩ := id (T5).best
          have f00 := (T5).fr w.heap.size 0 (.inl rfl)
          have f01 := (T5).fr w.heap.size 1 (.inl rfl)
          have f02 := (T5).fr w.heap.size 2 (.inl rfl)
          have g00 := (T5).fr (w.heap.size + 2) 0 (.inr (.inr rfl))
          have g01 := (T5).fr (w.heap.size + 2) 1 (.inr (.inr rfl))
          have g02 := (T5).fr (w.heap.size + 2) 2 (.inr (.inr rfl))
          have hz := (T5).size
          have hzN : w.heap.size < w5.heap.size := by omega
          clear T5 hSc hob hnb
          go_wp2_with fail
          go_roundw
          case rel => exact ⟨i + 1, found, b, by omega, by go_num, rfl, HBO.out.congr (F.SM_next C0 i), by rw [HNX.out]; exact HT5.out.setCur x.h x.w (srt (turnL x.h x.l)) (srt_len _).symm HO5.out hPz⟩
          case measure => simp [intOf]; omega
    · obtain rfl : i = 4 := by omega
      have hBO := HBO.out
      obtain rfl := F.found_all HGC.out hBO
      have hT := HT.out
      have HB := Lib.hid hBO
      clear hBO
      obtain ⟨Ac, kc, c0, c1, c2, hkc, hSc⟩ := id (hT).cur
      obtain ⟨Ab, kb, d0, d1, d2, hob, hnb⟩ := id (hT).best
      have f00 := (hT).fr w.heap.size 0 (.inl rfl)
      have f01 := (hT).fr w.heap.size 1 (.inl rfl)
      have f02 := (hT).fr w.heap.size 2 (.inl rfl)
      have g00 := (hT).fr (w.heap.size + 2) 0 (.inr (.inr rfl))
      have g01 := (hT).fr (w.heap.size + 2) 1 (.inr (.inr rfl))
      have g02 := (hT).fr (w.heap.size + 2) 2 (.inr (.inr rfl))
      have hz := (hT).size
      have hzN : w.heap.size < wr.heap.size := by omega
      obtain ⟨r0, r1, r2⟩ := id hT.res
      have h00 := hT.fr (w.heap.size + 1) 0 (.inr (.inl rfl))
      have h01 := hT.fr (w.heap.size + 1) 1 (.inr (.inl rfl))
      have h02 := hT.fr (w.heap.size + 1) 2 (.inr (.inl rfl))
      have hzN1 : w.heap.size + 1 < wr.heap.size := by omega
      have hne : (Value.slice Ab b.l.length kb).ownBlock ≠ some (w.heap.size + 1) := fun e => hnb _ e (.inr (.inl rfl))
      have R := ownsRow_setCell_other (ownsRow_setCell_other (ownsRow_setCell_other hob (a := ⟨w.heap.size + 1, 0, none⟩) hne (.int .i64 b.w)) (a := ⟨w.heap.size + 1, 1, none⟩) hne (.int .i64 b.h)) (a := ⟨w.heap.size + 1, 2, none⟩) hne (.slice Ab b.l.length kb)
      have hBE := ((hT.below.setCell (p := ⟨w.heap.size + 1, 0, none⟩) (by simp) (.int .i64 b.w)).setCell (p := ⟨w.heap.size + 1, 1, none⟩) (by simp) (.int .i64 b.h)).setCell (p := ⟨w.heap.size + 1, 2, none⟩) (by simp) (.slice Ab b.l.length kb)
      have HR := Lib.hid R
      have HBE := Lib.hid hBE
      clear hT HT HBO hSc hob hnb hne R hBE
      go_wp2_with fail
      refine bodyPost_ret (v := .agg #[.int .i64 b.w, .int .i64 b.h, .slice Ab b.l.length kb]) (by simp [results, Try.results55, go_sem, r0, r1, r2]) rfl ?_
      exact ⟨Ab, kb, b, rfl, HB.out, HR.out, HBE.out⟩
end Go.Proofs.Ytdpbjmdgjhleeaa
namespace Go.Proofs.Ytdpbjmdgjhleeaa
open Go.RowKit

theorem mirC_any (x : F.Ct) (A : Option Addr) (c : Nat) (w : World) (hc : x.l.length ≤ c) (hL : SqsAt w w.heap.size A x.l) (hG : Good x.w x.h x.l) :
    Calls Try.prog 51 #[.agg #[.int .i64 x.w, .int .i64 x.h, .slice A x.l.length c]] w (RetC w x.w x.h (F.mC x).l) :=
  (mirrored_any x.w x.h A x.l.length c x.l w rfl hc hL hG).mono (by
    rintro e w' ⟨A', c', T, rfl, hp, hs, ho, hb⟩
    obtain rfl := srt_uniq hp hs ((fill_mir (good_fill hG)).dist)
    have e : (mirL x.w x.l).length = (F.mC x).l.length := (srt_len _).symm
    rw [e] at ho ⊢
    exact ⟨A', c', rfl, ho, hb⟩)
theorem turnC_any (x : F.Ct) (A : Option Addr) (c : Nat) (w : World) (hc : x.l.length ≤ c) (hL : SqsAt w w.heap.size A x.l) (hG : Good x.w x.h x.l) :
    Calls Try.prog 56 #[.agg #[.int .i64 x.w, .int .i64 x.h, .slice A x.l.length c]] w (RetC w x.h x.w (F.tC x).l) :=
  (turned_any x.w x.h A x.l.length c x.l w rfl hc hL hG).mono (by
    rintro e w' ⟨A', c', T, rfl, hp, hs, ho, hb⟩
    obtain rfl := srt_uniq hp hs ((fill_turn (good_fill hG)).dist)
    have e : (turnL x.h x.l).length = (F.tC x).l.length := (srt_len _).symm
    rw [e] at ho ⊢
    exact ⟨A', c', rfl, ho, hb⟩)
def SqsOf (w : World) (v : Cv) : Prop := SqsAt w w.heap.size v.A v.l ∧ v.l.length ≤ 1048576
theorem min3_any (v1 v2 v3 : Cv) (w : World) (h1 : SqsOf w v1) (h2 : SqsOf w v2) (h3 : SqsOf w v3) :
    Calls Try.prog 57 #[.slice (some ⟨w.heap.size, 0, none⟩) 3 3, .func (.func 58) #[] #[]] (w.alloc (.cells #[.int .i64 v1.w, .int .i64 v1.h, .slice v1.A v1.l.length v1.c, .int .i64 v2.w, .int .i64 v2.h, .slice v2.A v2.l.length v2.c, .int .i64 v3.w, .int .i64 v3.h, .slice v3.A v3.l.length v3.c] 28)) fun e w' =>
      (∃ m : Cv, e = .returned (.agg #[.int .i64 m.w, .int .i64 m.h, .slice m.A m.l.length m.c]) ∧ (m = v1 ∨ m = v2 ∨ m = v3) ∧ ¬ F.ltQ v1.l m.l ∧ ¬ F.ltQ v2.l m.l ∧ ¬ F.ltQ v3.l m.l) ∧ Below w.heap.size w w' := by
  obtain ⟨W1, hW1⟩ : ∃ W1, W1 = w.alloc (.cells #[.int .i64 v1.w, .int .i64 v1.h, .slice v1.A v1.l.length v1.c, .int .i64 v2.w, .int .i64 v2.h, .slice v2.A v2.l.length v2.c, .int .i64 v3.w, .int .i64 v3.h, .slice v3.A v3.l.length v3.c] 28) := ⟨_, rfl⟩
  have hb : Below w.heap.size w W1 := by rw [hW1]; exact (Below.refl _ _).alloc (Nat.le_refl _) _
  have hz : W1.heap.size = w.heap.size + 1 := by rw [hW1]; simp
  have hC : CutsAt W1 W1.heap.size w.heap.size [v1, v2, v3] := by
    refine ⟨by omega, Nat.le_refl _, fun i v hv => ?_, fun v hv => ?_⟩
    · rcases i with _ | _ | _ | i
      · simp at hv; subst hv; rw [hW1]; exact ⟨by simp, by simp, by simp⟩
      · simp at hv; subst hv; rw [hW1]; exact ⟨by simp, by simp, by simp⟩
      · simp at hv; subst hv; rw [hW1]; exact ⟨by simp, by simp, by simp⟩
      · simp at hv
    · simp only [List.mem_cons, List.not_mem_nil, or_false] at hv
      rcases hv with rfl | rfl | rfl
      · exact ⟨(h1.1.below hb).mono (by omega), h1.2⟩
      · exact ⟨(h2.1.below hb).mono (by omega), h2.2⟩
      · exact ⟨(h3.1.below hb).mono (by omega), h3.2⟩
  rw [← hW1]
  have hM := minCuts_any w.heap.size 3 [v1, v2, v3] W1 (by simp) (by simp) hC
  refine (show Calls Try.prog 57 #[.slice (some ⟨w.heap.size, 0, none⟩) 3 3, .func (.func 58) #[] #[]] W1 _ from hM).mono ?_
  rintro e w' ⟨⟨m, rfl, hm, _, hl⟩, hb'⟩
  refine ⟨⟨m, rfl, by simpa using hm, hl 0 v1 (by simp) rfl, hl 1 v2 (by simp) rfl, hl 2 v3 (by simp) rfl⟩, hb.trans (hb'.mono (by omega))⟩

/-- A cut in the call's own box, and a box for the result. -/
structure TA (w : World) (c : F.Ct) (wr : World) : Prop where
  below : Below w.heap.size w wr
  size : w.heap.size + 1 < wr.heap.size
  cur : ∃ A k, wr.cell? ⟨w.heap.size, 0, none⟩ = some (.int .i64 c.w) ∧ wr.cell? ⟨w.heap.size, 1, none⟩ = some (.int .i64 c.h) ∧ wr.cell? ⟨w.heap.size, 2, none⟩ = some (.slice A c.l.length k) ∧ c.l.length ≤ k ∧ SqsN wr w.heap.size wr.heap.size A c.l
  res : wr.cell? ⟨w.heap.size + 1, 0, none⟩ = some (.int .i64 0) ∧ wr.cell? ⟨w.heap.size + 1, 1, none⟩ = some (.int .i64 0) ∧ wr.cell? ⟨w.heap.size + 1, 2, none⟩ = some (.slice none 0 0)
  fr : ∀ g o, g = w.heap.size ∨ g = w.heap.size + 1 → wr.frozen? ⟨g, o, none⟩ = false
theorem SqsN.late {w : World} {N P P' : Nat} {A : Option Addr} {l : List Sq} (h : SqsN w N P A l) (hP : w.heap.size ≤ P') : SqsN w N P' A l := fun i s hs => by
  obtain ⟨b, off, e, ⟨h1, h2⟩, c0, c1, c2⟩ := h i s hs
  exact ⟨b, off, e, ⟨h1, by unfold Sb at h2 ⊢; omega⟩, c0, c1, c2⟩
theorem TA.keep {w wr w' : World} {c : F.Ct} (h : TA w c wr) (hb : Below wr.heap.size wr w') : TA w c w' := by
  obtain ⟨A, k, c0, c1, c2, c3, c4⟩ := h.cur
  obtain ⟨r0, r1, r2⟩ := h.res
  have hz := h.size
  have hc : ∀ g o v, g = w.heap.size ∨ g = w.heap.size + 1 → wr.cell? ⟨g, o, none⟩ = some v → w'.cell? ⟨g, o, none⟩ = some v := fun g o v hg hv => (hb.cell (p := ⟨g, o, none⟩) (by show g < _; omega)).trans hv
  exact ⟨h.below.trans (hb.mono h.below.size), Nat.lt_of_lt_of_le hz hb.size, ⟨A, k, hc _ _ _ (.inl rfl) c0, hc _ _ _ (.inl rfl) c1, hc _ _ _ (.inl rfl) c2, c3, (c4.keep hb).late (Nat.le_refl _)⟩, ⟨hc _ _ _ (.inr rfl) r0, hc _ _ _ (.inr rfl) r1, hc _ _ _ (.inr rfl) r2⟩, fun g o hg => (hb.frozen (p := ⟨g, o, none⟩) (by show g < _; omega)).trans (h.fr g o hg)⟩
theorem TA.setCur {w wr : World} {base n k : Nat} {A : Option Addr} {c : F.Ct} (h : TA w c wr) (X Y : Int) (l : List Sq) (hn : n = l.length) (own : wr.ownsRow base 85 3 (.slice A n k) n (flat l)) (hb : w.heap.size + 2 ≤ base) :
    TA w ⟨X, Y, l⟩ (((wr.setCell ⟨w.heap.size, 0, none⟩ (.int .i64 X)).setCell ⟨w.heap.size, 1, none⟩ (.int .i64 Y)).setCell ⟨w.heap.size, 2, none⟩ (.slice A n k)) := by
  subst hn
  obtain ⟨A0, k0, c0, c1, c2, _, _⟩ := h.cur
  obtain ⟨r0, r1, r2⟩ := h.res
  have hz := h.size
  obtain ⟨e0, e1, e2⟩ := set3 wr w.heap.size (.int .i64 X) (.int .i64 Y) (.slice A l.length k) c0 c1 c2
  have nb : ∀ g, (Value.slice A l.length k).ownBlock = some g → ¬ Sb w.heap.size wr.heap.size g := fun g hg => by
    have := own.lt g hg
    unfold Sb
    omega
  have s0 : Sb w.heap.size wr.heap.size w.heap.size := .inl rfl
  have hS := (((SqsN.own own nb).set ⟨w.heap.size, 0, none⟩ (.int .i64 X) s0).set ⟨w.heap.size, 1, none⟩ (.int .i64 Y) s0).set ⟨w.heap.size, 2, none⟩ (.slice A l.length k) s0
  refine ⟨((h.below.setCell (Nat.le_refl _) _).setCell (Nat.le_refl _) _).setCell (Nat.le_refl _) _, by simpa using hz, ⟨A, k, e0, e1, e2, own_cap own, hS.late (Nat.le_refl _)⟩, ⟨?_, ?_, ?_⟩, fun g o hg => by simpa [go_sem] using h.fr g o hg⟩
  · rw [far3 _ _ _ _ _ (by show w.heap.size ≠ w.heap.size + 1; omega)]; exact r0
  · rw [far3 _ _ _ _ _ (by show w.heap.size ≠ w.heap.size + 1; omega)]; exact r1
  · rw [far3 _ _ _ _ _ (by show w.heap.size ≠ w.heap.size + 1; omega)]; exact r2
theorem TA.box {w wr : World} {base n k : Nat} {A : Option Addr} {c : F.Ct} (h : TA w c wr) (X Y : Int) (l : List Sq) (hn : n = l.length) (own : wr.ownsRow base 85 3 (.slice A n k) n (flat l)) (hb : w.heap.size + 2 ≤ base) (hlen : l.length ≤ 1048576) :
    TB w wr.heap.size c ⟨X, Y, l⟩ (wr.alloc (.cells #[.int .i64 X, .int .i64 Y, .slice A n k] 28)) := by
  subst hn
  have hb1 : Below wr.heap.size wr (wr.alloc (.cells #[.int .i64 X, .int .i64 Y, .slice A l.length k] 28)) := (Below.refl _ _).alloc (Nat.le_refl _) _
  have hz := h.size
  have h' := h.keep hb1
  obtain ⟨A0, k0, c0, c1, c2, c3, c4⟩ := h.cur
  have hc : ∀ g o v, g = w.heap.size ∨ g = w.heap.size + 1 → wr.cell? ⟨g, o, none⟩ = some v → (wr.alloc (.cells #[.int .i64 X, .int .i64 Y, .slice A l.length k] 28)).cell? ⟨g, o, none⟩ = some v := fun g o v hg hv => (hb1.cell (p := ⟨g, o, none⟩) (by show g < _; omega)).trans hv
  refine ⟨h'.below, by omega, by simp, ⟨A0, k0, hc _ _ _ (.inl rfl) c0, hc _ _ _ (.inl rfl) c1, hc _ _ _ (.inl rfl) c2, c3, c4.keep hb1⟩, ⟨A, k, by simp, by simp, by simp, own_base (own_keep own hb1) (by omega), fun g hg => ?_⟩, h'.res, fun g o hg => ?_, hlen⟩
  · have := own.lt g hg
    unfold Sb
    omega
  · rcases hg with hg | hg | rfl
    · exact h'.fr g o (.inl hg)
    · exact h'.fr g o (.inr hg)
    · exact World.frozen?_alloc_at _ _ _ _ rfl
end Go.Proofs.Ytdpbjmdgjhleeaa
