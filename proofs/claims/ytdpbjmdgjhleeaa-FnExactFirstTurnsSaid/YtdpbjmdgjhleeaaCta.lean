/- The cuts in their order, and the steps that list them the other way round: no program in sight. -/
import Derived.Test.YtdpbjmdgjhleeaaCtG
import Derived.Test.YtdpbjmdgjhleeaaFirstG
set_option linter.all false
namespace Go.Proofs.Ytdpbjmdgjhleeaa
open Go.RowKit
theorem fm_after {W : Nat} {H : Int} {f : List Int} (h : Fl W H f) {x r s : Nat} {y : Int} (hm : FM f x y) (hr : RM f H x y r) (hs : s ≤ r) (h1 : 1 ≤ s) {x' : Nat} {y' : Int} (hm' : FM (liftF f x s s) x' y') : y < y' ∨ y = y' ∧ x < x' := by
  have hg := hm'.1
  rw [liftF_get] at hg
  cases h' : f[x']? with
  | none => rw [h'] at hg; cases hg
  | some u =>
    rw [h'] at hg
    simp only [Option.map_some, Option.some.injEq] at hg
    have hu := hm.2.1 x' u h'
    split at hg
    · left; omega
    · rename_i hc
      by_cases e : y < y'
      · exact .inl e
      · right
        have e2 : y = y' := by omega
        refine ⟨e2, ?_⟩
        by_cases hx : x' < x
        · have := hm.2.2 x' u hx h'; omega
        · by_cases ex : x' = x
          · exact absurd ⟨by omega, by omega⟩ hc
          · omega
/-- The squares come in the order of a cut. -/
theorem fills_sorted {m k W : Nat} {H : Int} (hW : 1 ≤ W) : ∀ {f : List Int}, Fl W H f → ∀ {x : Nat} {y : Int}, FM f x y → ∀ M ∈ fills m H k f, M.Pairwise lt2 ∧ ∀ s ∈ M, (s.y = y ∧ s.x = x) ∨ Less x y s.x s.y := by
  induction k with
  | zero => intro f _ x y _ M hM; simp [fills] at hM; subst hM; simp
  | succ k ih =>
    intro f h x y hm M hM
    obtain ⟨x0, y0, r, hm0, hr⟩ := h.rm hW
    obtain ⟨rfl, rfl⟩ := FM.uniq hm hm0
    by_cases h0 : r = 0
    · subst h0; rw [fills_leaf hm hr] at hM; simp at hM; subst hM; simp
    · rw [fills_node hm hr h0] at hM
      obtain ⟨i, hi, hM⟩ := List.mem_flatMap.1 hM
      rw [List.mem_range] at hi
      obtain ⟨N, hN, rfl⟩ := List.mem_map.1 hM
      have hnx := h.next hm hr (s := i + 1) (by omega)
      obtain ⟨x', y', r', hm', _⟩ := hnx.1.rm hW
      obtain ⟨p1, p2⟩ := ih hnx.1 hm' N hN
      have ha := fm_after h hm hr (s := i + 1) (by omega) (by omega) hm'
      refine ⟨List.pairwise_cons.2 ⟨fun s hs => ?_, p1⟩, fun s hs => ?_⟩
      · have := p2 s hs
        unfold lt2 Less at *
        dsimp only
        omega
      · rcases List.mem_cons.1 hs with rfl | hs
        · exact .inl ⟨rfl, rfl⟩
        · have := p2 s hs
          unfold Less at *
          omega
theorem pair_flat {α β : Type} {R : β → β → Prop} (g : Nat → List β) (n : Nat) (h1 : ∀ i, i < n → (g i).Pairwise R) (h2 : ∀ i j, i < j → j < n → ∀ a ∈ g i, ∀ b ∈ g j, R a b) : ((List.range n).flatMap g).Pairwise R := by
  induction n with
  | zero => simp
  | succ n ih =>
    rw [flatMap_range_succ, List.pairwise_append]
    refine ⟨ih (fun i hi => h1 i (by omega)) (fun i j hi hj => h2 i j hi (by omega)), h1 n (by omega), fun a ha b hb => ?_⟩
    obtain ⟨i, hi, ha⟩ := List.mem_flatMap.1 ha
    exact h2 i n (List.mem_range.1 hi) (by omega) a ha b hb
/-- The cuts come in their order. -/
theorem fills_order {m k W : Nat} {H : Int} (hW : 1 ≤ W) : ∀ {f : List Int}, Fl W H f → (fills m H k f).Pairwise F.ltQ := by
  induction k with
  | zero => intro f _; simp [fills]
  | succ k ih =>
    intro f h
    obtain ⟨x, y, r, hm, hr⟩ := h.rm hW
    by_cases h0 : r = 0
    · subst h0; rw [fills_leaf hm hr]; simp
    · rw [fills_node hm hr h0]
      refine pair_flat (α := Nat) _ _ (fun i hi => ?_) (fun i j hij hj a ha b hb => ?_)
      · unfold stepF
        rw [List.pairwise_map]
        exact (ih (h.next hm hr (s := i + 1) (by omega)).1).imp fun hab => by simp only [F.ltQ]; exact .inr ⟨trivial, hab⟩
      · obtain ⟨A, _, rfl⟩ := List.mem_map.1 ha
        obtain ⟨B, _, rfl⟩ := List.mem_map.1 hb
        simp only [F.ltQ]
        left
        unfold F.ltS
        dsimp only
        omega
/-- What the steps from i on, n of them, list. -/
def segF (g : Nat → List (List Sq)) (i n : Nat) : List (List Sq) := (List.range' i n).flatMap g
theorem segF_succ (g : Nat → List (List Sq)) (i n : Nat) : segF g i (n + 1) = g i ++ segF g (i + 1) n := by simp [segF, List.range'_succ]
theorem segF_all (g : Nat → List (List Sq)) (n : Nat) : segF g 0 n = (List.range n).flatMap g := by simp [segF, List.range_eq_range']
end Go.Proofs.Ytdpbjmdgjhleeaa
