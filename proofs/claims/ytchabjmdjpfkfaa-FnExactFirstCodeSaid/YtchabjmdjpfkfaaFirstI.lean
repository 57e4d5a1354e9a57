/- The first turn: what the program's search calls. -/
import Derived.Test.YtchabjmdjpfkfaaFirstH
set_option linter.all false
namespace Go.Proofs.Ytchabjmdjpfkfaa
open Go.RowKit

theorem mirC_any (x : F.Ct) (A : Option Addr) (c : Nat) (w : World) (hc : x.l.length ≤ c) (hL : SqsAt w w.heap.size A x.l) (hG : Good x.w x.h x.l) :
    Calls Try.prog 89 #[.agg #[.int .i64 x.w, .int .i64 x.h, .slice A x.l.length c]] w (RetC w x.w x.h (F.mC x).l) :=
  (mirrored_any x.w x.h A x.l.length c x.l w rfl hc hL hG).mono (by
    rintro e w' ⟨A', c', T, rfl, hp, hs, ho, hb⟩
    obtain rfl := srt_uniq hp hs ((fill_mir (good_fill hG)).dist)
    have e : (mirL x.w x.l).length = (F.mC x).l.length := (srt_len _).symm
    rw [e] at ho ⊢
    exact ⟨A', c', rfl, ho, hb⟩)
theorem turnC_any (x : F.Ct) (A : Option Addr) (c : Nat) (w : World) (hc : x.l.length ≤ c) (hL : SqsAt w w.heap.size A x.l) (hG : Good x.w x.h x.l) :
    Calls Try.prog 88 #[.agg #[.int .i64 x.w, .int .i64 x.h, .slice A x.l.length c]] w (RetC w x.h x.w (F.tC x).l) :=
  (turned_any x.w x.h A x.l.length c x.l w rfl hc hL hG).mono (by
    rintro e w' ⟨A', c', T, rfl, hp, hs, ho, hb⟩
    obtain rfl := srt_uniq hp hs ((fill_turn (good_fill hG)).dist)
    have e : (turnL x.h x.l).length = (F.tC x).l.length := (srt_len _).symm
    rw [e] at ho ⊢
    exact ⟨A', c', rfl, ho, hb⟩)
def SqsOf (w : World) (v : Cv) : Prop := SqsAt w w.heap.size v.A v.l ∧ v.l.length ≤ 1048576
theorem min3_any (v1 v2 v3 : Cv) (w : World) (h1 : SqsOf w v1) (h2 : SqsOf w v2) (h3 : SqsOf w v3) :
    Calls Try.prog 90 #[.slice (some ⟨w.heap.size, 0, none⟩) 3 3, .func (.func 91) #[] #[]] (w.alloc (.cells #[.int .i64 v1.w, .int .i64 v1.h, .slice v1.A v1.l.length v1.c, .int .i64 v2.w, .int .i64 v2.h, .slice v2.A v2.l.length v2.c, .int .i64 v3.w, .int .i64 v3.h, .slice v3.A v3.l.length v3.c] 50)) fun e w' =>
      (∃ m : Cv, e = .returned (.agg #[.int .i64 m.w, .int .i64 m.h, .slice m.A m.l.length m.c]) ∧ (m = v1 ∨ m = v2 ∨ m = v3) ∧ ¬ F.ltQ v1.l m.l ∧ ¬ F.ltQ v2.l m.l ∧ ¬ F.ltQ v3.l m.l) ∧ Below w.heap.size w w' := by
  obtain ⟨W1, hW1⟩ : ∃ W1, W1 = w.alloc (.cells #[.int .i64 v1.w, .int .i64 v1.h, .slice v1.A v1.l.length v1.c, .int .i64 v2.w, .int .i64 v2.h, .slice v2.A v2.l.length v2.c, .int .i64 v3.w, .int .i64 v3.h, .slice v3.A v3.l.length v3.c] 50) := ⟨_, rfl⟩
  have hb : Below w.heap.size w W1 := by rw [hW1]; exact (Below.refl _ _).alloc (Nat.le_refl _) _
  have hz : W1.heap.size = w.heap.size + 1 := by rw [hW1]; simp
  have hC : CutsAt W1 W1.heap.size w.heap.size [v1, v2, v3] := by
    refine ⟨by omega, Nat.le_refl _, fun i v hv => ?_, fun v hv => ?_⟩
    · rcases i with _ | _ | _ | i
      · simp at hv; subst hv; rw [hW1]; exact ⟨by simp, by simp, by simp⟩
      · simp at hv; subst hv; rw [hW1]; exact ⟨by simp, by simp, by simp⟩
      · simp at hv; subst hv; rw [hW1]; exact ⟨by simp, by simp, by simp⟩
      · simp at hv
    · simp only [List.mem_cons, List.not_mem_nil, or_false] at hv
      rcases hv with rfl | rfl | rfl
      · exact ⟨(h1.1.below hb).mono (by omega), h1.2⟩
      · exact ⟨(h2.1.below hb).mono (by omega), h2.2⟩
      · exact ⟨(h3.1.below hb).mono (by omega), h3.2⟩
  rw [← hW1]
  have hM := minCuts_any w.heap.size 3 [v1, v2, v3] W1 (by simp) (by simp) hC
  refine (show Calls Try.prog 90 #[.slice (some ⟨w.heap.size, 0, none⟩) 3 3, .func (.func 91) #[] #[]] W1 _ from hM).mono ?_
  rintro e w' ⟨⟨m, rfl, hm, _, hl⟩, hb'⟩
  refine ⟨⟨m, rfl, by simpa using hm, hl 0 v1 (by simp) rfl, hl 1 v2 (by simp) rfl, hl 2 v3 (by simp) rfl⟩, hb.trans (hb'.mono (by omega))⟩

/-- A cut in the call's own box, and a box for the result. -/
structure TA (w : World) (c : F.Ct) (wr : World) : Prop where
  below : Below w.heap.size w wr
  size : w.heap.size + 1 < wr.heap.size
  cur : ∃ A k, wr.cell? ⟨w.heap.size, 0, none⟩ = some (.int .i64 c.w) ∧ wr.cell? ⟨w.heap.size, 1, none⟩ = some (.int .i64 c.h) ∧ wr.cell? ⟨w.heap.size, 2, none⟩ = some (.slice A c.l.length k) ∧ c.l.length ≤ k ∧ SqsN wr w.heap.size wr.heap.size A c.l
  res : wr.cell? ⟨w.heap.size + 1, 0, none⟩ = some (.int .i64 0) ∧ wr.cell? ⟨w.heap.size + 1, 1, none⟩ = some (.int .i64 0) ∧ wr.cell? ⟨w.heap.size + 1, 2, none⟩ = some (.slice none 0 0)
  fr : ∀ g o, g = w.heap.size ∨ g = w.heap.size + 1 → wr.frozen? ⟨g, o, none⟩ = false
theorem SqsN.late {w : World} {N P P' : Nat} {A : Option Addr} {l : List Sq} (h : SqsN w N P A l) (hP : w.heap.size ≤ P') : SqsN w N P' A l := fun i s hs => by
  obtain ⟨b, off, e, ⟨h1, h2⟩, c0, c1, c2⟩ := h i s hs
  exact ⟨b, off, e, ⟨h1, by unfold Sb at h2 ⊢; omega⟩, c0, c1, c2⟩
theorem TA.keep {w wr w' : World} {c : F.Ct} (h : TA w c wr) (hb : Below wr.heap.size wr w') : TA w c w' := by
  obtain ⟨A, k, c0, c1, c2, c3, c4⟩ := h.cur
  obtain ⟨r0, r1, r2⟩ := h.res
  have hz := h.size
  have hc : ∀ g o v, g = w.heap.size ∨ g = w.heap.size + 1 → wr.cell? ⟨g, o, none⟩ = some v → w'.cell? ⟨g, o, none⟩ = some v := fun g o v hg hv => (hb.cell (p := ⟨g, o, none⟩) (by show g < _; omega)).trans hv
  exact ⟨h.below.trans (hb.mono h.below.size), Nat.lt_of_lt_of_le hz hb.size, ⟨A, k, hc _ _ _ (.inl rfl) c0, hc _ _ _ (.inl rfl) c1, hc _ _ _ (.inl rfl) c2, c3, (c4.keep hb).late (Nat.le_refl _)⟩, ⟨hc _ _ _ (.inr rfl) r0, hc _ _ _ (.inr rfl) r1, hc _ _ _ (.inr rfl) r2⟩, fun g o hg => (hb.frozen (p := ⟨g, o, none⟩) (by show g < _; omega)).trans (h.fr g o hg)⟩
theorem TA.setCur {w wr : World} {base n k : Nat} {A : Option Addr} {c : F.Ct} (h : TA w c wr) (X Y : Int) (l : List Sq) (hn : n = l.length) (own : wr.ownsRow base 77 3 (.slice A n k) n (flat l)) (hb : w.heap.size + 2 ≤ base) :
    TA w ⟨X, Y, l⟩ (((wr.setCell ⟨w.heap.size, 0, none⟩ (.int .i64 X)).setCell ⟨w.heap.size, 1, none⟩ (.int .i64 Y)).setCell ⟨w.heap.size, 2, none⟩ (.slice A n k)) := by
  subst hn
  obtain ⟨A0, k0, c0, c1, c2, _, _⟩ := h.cur
  obtain ⟨r0, r1, r2⟩ := h.res
  have hz := h.size
  obtain ⟨e0, e1, e2⟩ := set3 wr w.heap.size (.int .i64 X) (.int .i64 Y) (.slice A l.length k) c0 c1 c2
  have nb : ∀ g, (Value.slice A l.length k).ownBlock = some g → ¬ Sb w.heap.size wr.heap.size g := fun g hg => by
    have := own.lt g hg
    unfold Sb
    omega
  have s0 : Sb w.heap.size wr.heap.size w.heap.size := .inl rfl
  have hS := (((SqsN.own own nb).set ⟨w.heap.size, 0, none⟩ (.int .i64 X) s0).set ⟨w.heap.size, 1, none⟩ (.int .i64 Y) s0).set ⟨w.heap.size, 2, none⟩ (.slice A l.length k) s0
  refine ⟨((h.below.setCell (Nat.le_refl _) _).setCell (Nat.le_refl _) _).setCell (Nat.le_refl _) _, by simpa using hz, ⟨A, k, e0, e1, e2, own_cap own, hS.late (Nat.le_refl _)⟩, ⟨?_, ?_, ?_⟩, fun g o hg => by simpa [go_sem] using h.fr g o hg⟩
  · rw [far3 _ _ _ _ _ (by show w.heap.size ≠ w.heap.size + 1; omega)]; exact r0
  · rw [far3 _ _ _ _ _ (by show w.heap.size ≠ w.heap.size + 1; omega)]; exact r1
  · rw [far3 _ _ _ _ _ (by show w.heap.size ≠ w.heap.size + 1; omega)]; exact r2
theorem TA.box {w wr : World} {base n k : Nat} {A : Option Addr} {c : F.Ct} (h : TA w c wr) (X Y : Int) (l : List Sq) (hn : n = l.length) (own : wr.ownsRow base 77 3 (.slice A n k) n (flat l)) (hb : w.heap.size + 2 ≤ base) (hlen : l.length ≤ 1048576) :
    TB w wr.heap.size c ⟨X, Y, l⟩ (wr.alloc (.cells #[.int .i64 X, .int .i64 Y, .slice A n k] 50)) := by
  subst hn
  have hb1 : Below wr.heap.size wr (wr.alloc (.cells #[.int .i64 X, .int .i64 Y, .slice A l.length k] 50)) := (Below.refl _ _).alloc (Nat.le_refl _) _
  have hz := h.size
  have h' := h.keep hb1
  obtain ⟨A0, k0, c0, c1, c2, c3, c4⟩ := h.cur
  have hc : ∀ g o v, g = w.heap.size ∨ g = w.heap.size + 1 → wr.cell? ⟨g, o, none⟩ = some v → (wr.alloc (.cells #[.int .i64 X, .int .i64 Y, .slice A l.length k] 50)).cell? ⟨g, o, none⟩ = some v := fun g o v hg hv => (hb1.cell (p := ⟨g, o, none⟩) (by show g < _; omega)).trans hv
  refine ⟨h'.below, by omega, by simp, ⟨A0, k0, hc _ _ _ (.inl rfl) c0, hc _ _ _ (.inl rfl) c1, hc _ _ _ (.inl rfl) c2, c3, c4.keep hb1⟩, ⟨A, k, by simp, by simp, by simp, own_base (own_keep own hb1) (by omega), fun g hg => ?_⟩, h'.res, fun g o hg => ?_, hlen⟩
  · have := own.lt g hg
    unfold Sb
    omega
  · rcases hg with hg | hg | rfl
    · exact h'.fr g o (.inl hg)
    · exact h'.fr g o (.inr hg)
    · exact World.frozen?_alloc_at _ _ _ _ rfl
end Go.Proofs.Ytchabjmdjpfkfaa
