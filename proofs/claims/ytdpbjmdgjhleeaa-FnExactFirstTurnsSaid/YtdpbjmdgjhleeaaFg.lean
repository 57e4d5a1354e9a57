/- The ways to fill a rectangle are its cuts: no program in sight. -/
import Derived.Test.YtdpbjmdgjhleeaaCta
import Derived.Test.YtdpbjmdgjhleeaaGeo
set_option linter.all false
namespace Go.Proofs.Ytdpbjmdgjhleeaa
open Go.RowKit

/-- The squares L lie under the columns f. -/
structure IV (W : Nat) (H : Int) (f : List Int) (L : List Sq) : Prop where
  cov : ∀ p ∈ L, ∀ (i : Nat) v, f[i]? = some v → p.x ≤ i → (i : Int) < p.x + p.d → p.y + p.d ≤ v
  within : ∀ q ∈ L, Within q W H
  pair : L.Pairwise NoLap
  sum : f.sum = area L
theorem area_snoc (L : List Sq) (q : Sq) : area (L ++ [q]) = area L + q.d * q.d := by
  induction L with
  | nil => simp [area]
  | cons s r ih => simp only [List.cons_append, area, ih]; omega
theorem IV.start (W : Nat) (H : Int) : IV W H (List.replicate W 0) [] := by
  refine ⟨fun p hp => by simp at hp, fun p hp => by simp at hp, List.Pairwise.nil, ?_⟩
  induction W with | zero => rfl | succ n ih => simpa [List.replicate_succ] using ih
theorem IV.next {W : Nat} {H : Int} {f : List Int} {L : List Sq} (h : IV W H f L) (hf : Fl W H f) {x r s : Nat} {y : Int} (hm : FM f x y) (hr : RM f H x y r) (h1 : 1 ≤ s) (hs : s ≤ r) :
    IV W H (liftF f x s s) (L ++ [⟨(x : Nat), y, (s : Int)⟩]) := by
  have hw := hr.w
  have hh := hr.h
  have hl := hf.len
  have hy := hf.lo x y hm.1
  refine ⟨fun p hp i v hv h2 h3 => ?_, fun q hq => ?_, ?_, ?_⟩
  · rw [liftF_get] at hv
    cases hi : f[i]? with
    | none => rw [hi] at hv; cases hv
    | some u =>
      rw [hi] at hv
      simp only [Option.map_some, Option.some.injEq] at hv
      rcases List.mem_append.1 hp with hp | hp
      · have := h.cov p hp i u hi h2 h3
        split at hv <;> omega
      · rw [List.mem_singleton] at hp
        subst hp
        dsimp only at h2 h3 ⊢
        rw [if_pos (by omega)] at hv
        have := hr.l i (by omega) (by omega)
        rw [hi] at this; cases this
        omega
  · rcases List.mem_append.1 hq with hq | hq
    · exact h.within q hq
    · rw [List.mem_singleton] at hq
      subst hq
      unfold Within
      dsimp only
      omega
  · rw [List.pairwise_append]
    refine ⟨h.pair, List.pairwise_singleton _ _, fun p hp q hq => ?_⟩
    rw [List.mem_singleton] at hq
    subst hq
    intro ho
    unfold Over at ho
    dsimp only at ho
    have hpw := h.within p hp
    unfold Within at hpw
    obtain ⟨i, hi⟩ : ∃ i : Nat, (i : Int) = max p.x x := ⟨(max p.x x).toNat, by omega⟩
    have h5 := hr.l i (by omega) (by omega)
    have := h.cov p hp i y h5 (by omega) (by omega)
    omega
  · rw [(hf.next hm hr hs).2, area_snoc, h.sum]
theorem fills_cut {m W : Nat} {H : Int} (hW : 1 ≤ W) (k : Nat) : ∀ (f : List Int) (L : List Sq), Fl W H f → free W H f ≤ k → IV W H f L → ∀ M ∈ fills m H k f, (∀ q ∈ L ++ M, Within q W H) ∧ (L ++ M).Pairwise NoLap ∧ (m ≠ 0 → area (L ++ M) = W * H) := by
  induction k with
  | zero =>
    intro f L hf hk hI M hM
    simp [fills] at hM
    subst hM
    rw [List.append_nil]
    refine ⟨hI.within, hI.pair, fun _ => ?_⟩
    obtain ⟨x, y, r, hm, hr⟩ := hf.rm hW
    have := hf.zero (by omega) hm hr
    subst this
    rw [← hI.sum, hf.done hm hr]
  | succ k ih =>
    intro f L hf hk hI M hM
    obtain ⟨x, y, r, hm, hr⟩ := hf.rm hW
    by_cases h0 : r = 0
    · subst h0
      rw [fills_leaf hm hr] at hM
      simp at hM
      subst hM
      rw [List.append_nil]
      exact ⟨hI.within, hI.pair, fun _ => by rw [← hI.sum, hf.done hm hr]⟩
    · rw [fills_node hm hr h0] at hM
      obtain ⟨i, hi, hM⟩ := List.mem_flatMap.1 hM
      rw [List.mem_range] at hi
      obtain ⟨N, hN, rfl⟩ := List.mem_map.1 hM
      have h2 := free_next hf hm hr (s := i + 1) (by omega)
      have h3 : 1 ≤ (i + 1) * (i + 1) := Nat.mul_pos (by omega) (by omega)
      have := ih _ _ (hf.next hm hr (s := i + 1) (by omega)).1 (by omega) (hI.next hf hm hr (s := i + 1) (by omega) (by omega)) N hN
      simpa using this
/-- What fills a rectangle of at most 30 cells is a cut. -/
theorem fills_good {m W H : Nat} (hW : 1 ≤ W ∧ W ≤ 500) (hH : 1 ≤ H ∧ H ≤ 500) (hm : 1 ≤ m) (h30 : W * H ≤ 30) (M : List Sq) (hM : M ∈ fills m H (W * H) (List.replicate W 0)) : Good W H M := by
  have hf : Fl W H (List.replicate W 0) := Fl.start W (by omega)
  have hfr : free W H (List.replicate W 0) = W * H := by
    unfold free
    have h0 := (IV.start W H).sum
    rw [h0]
    have : ((W : Int) * (H : Int)) = ((W * H : Nat) : Int) := by simp
    simp only [area]
    omega
  obtain ⟨h1, h2, h3⟩ := fills_cut hW.1 (W * H) _ [] hf (by omega) (IV.start W H) M hM
  rw [List.nil_append] at h1 h2 h3
  have hl := fills_len hW.1 hf M hM
  rw [hfr] at hl
  have hp : 0 < W * H := Nat.mul_pos (by omega) (by omega)
  have hl1 := hl.2.1 hp hp
  obtain ⟨x, y, r, hmm, _⟩ := hf.rm hW.1
  exact good_of ⟨by omega, by omega, ⟨by omega, by omega⟩, h1, h2, h3 (by omega)⟩ (fills_sorted hW.1 hf hmm M hM).1
end Go.Proofs.Ytdpbjmdgjhleeaa
