/- What currents leave at the nodes; balanced currents. No program in sight. -/
import Derived.Test.YthifflekbdeafaaNetP
import Derived.Test.YthifflekbdeafaaFill
import Derived.Lib.Slices
namespace Go.Proofs.Ythifflekbdeafaa
open Go.RowKit

/-- What wires and currents leave at the nodes. -/
def flS (l : List Int) (p : Wi × Int) : List Int := (l.set p.1.a.toNat (l.getD p.1.a.toNat 0 - p.2)).set p.1.b.toNat ((l.set p.1.a.toNat (l.getD p.1.a.toNat 0 - p.2)).getD p.1.b.toNat 0 + p.2)
def flowF (N : Nat) (ps : List (Wi × Int)) : List Int := ps.foldl flS (List.replicate N 0)
theorem flS_len (l : List Int) (p : Wi × Int) : (flS l p).length = l.length := by simp [flS]
theorem flowF_len (N : Nat) (ps : List (Wi × Int)) : (flowF N ps).length = N := by
  unfold flowF
  suffices h : ∀ l : List Int, l.length = N → (ps.foldl flS l).length = N from h _ (by simp)
  induction ps with
  | nil => intro l h; exact h
  | cons p r ih => intro l h; exact ih _ (by rw [flS_len]; exact h)
theorem flowF_succ (N : Nat) (ps : List (Wi × Int)) (k : Nat) (p : Wi × Int) (h : ps[k]? = some p) : flowF N (ps.take (k + 1)) = flS (flowF N (ps.take k)) p := by
  unfold flowF
  rw [List.take_add_one, h, List.foldl_append]
  rfl
theorem getD_setI (l : List Int) (i k : Nat) (x : Int) : (l.set i x).getD k 0 = if i = k ∧ i < l.length then x else l.getD k 0 := by
  rw [List.getD_eq_getElem?_getD, List.getElem?_set, List.getD_eq_getElem?_getD]
  by_cases e : i = k
  · subst e
    by_cases h : i < l.length
    · simp [h]
    · simp [h]
  · simp [e]
/-- The sizes of these. -/
def BdL (B : Int) (l : List Int) : Prop := ∀ k, -B ≤ l.getD k 0 ∧ l.getD k 0 ≤ B
theorem flS_bd {B C : Int} {l : List Int} {p : Wi × Int} (_hC : 0 ≤ C) (hne : p.1.a.toNat ≠ p.1.b.toNat) (hp : -C ≤ p.2 ∧ p.2 ≤ C) (h : BdL B l) : BdL (B + C) (flS l p) := by
  intro k
  have h1 := h p.1.a.toNat
  have h2 := h p.1.b.toNat
  have h3 := h k
  unfold flS
  rw [getD_setI, getD_setI, getD_setI]
  simp only [List.length_set]
  split
  · rw [if_neg (fun e => hne e.1)]; omega
  · split <;> omega
theorem flowF_bd {C : Int} {N : Nat} {ps : List (Wi × Int)} (hC : 0 ≤ C) (hne : ∀ p ∈ ps, p.1.a.toNat ≠ p.1.b.toNat) (hp : ∀ p ∈ ps, -C ≤ p.2 ∧ p.2 ≤ C) (k : Nat) (hk : k ≤ ps.length) : BdL (C * k) (flowF N (ps.take k)) := by
  induction k with
  | zero =>
    intro j
    have : (flowF N (ps.take 0)).getD j 0 = 0 := by
      unfold flowF
      rw [List.take_zero, List.foldl_nil, List.getD_eq_getElem?_getD, List.getElem?_replicate]
      split <;> rfl
    rw [this]; simp
  | succ k ih =>
    obtain ⟨p, h⟩ : ∃ p, ps[k]? = some p := ⟨_, List.getElem?_eq_getElem (by omega)⟩
    have hm := List.mem_of_getElem? h
    rw [flowF_succ N ps k p h]
    have := flS_bd hC (hne p hm) (hp p hm) (ih (by omega))
    rw [show C * ((k + 1 : Nat) : Int) = C * (k : Int) + C by rw [Int.natCast_add, Int.mul_add]; simp]
    exact this
/-- Nothing is left at the nodes between the poles. -/
def IsFl (N : Nat) (ps : List (Wi × Int)) : Prop := ∀ k, 1 ≤ k → k < N - 1 → (flowF N ps).getD k 0 = 0
/-- Each current is the difference of what is told of its wire's ends. -/
def IsBl (P : List (Option Int)) (ps : List (Wi × Int)) : Prop := ∀ p ∈ ps, (P.getD p.1.a.toNat none).getD 0 - (P.getD p.1.b.toNat none).getD 0 = p.2
def pots (P : List (Option Int)) : List Int := P.map fun o => o.getD 0
theorem pots_len (P : List (Option Int)) : (pots P).length = P.length := by simp [pots]
theorem pots_get (P : List (Option Int)) (k : Nat) : (pots P).getD k 0 = (P.getD k none).getD 0 := by
  unfold pots
  rw [List.getD_eq_getElem?_getD, List.getD_eq_getElem?_getD, List.getElem?_map]
  cases P[k]? <;> rfl
theorem pots_set (P : List (Option Int)) (k : Nat) (x : Int) : pots (P.set k (some x)) = (pots P).set k x := by
  unfold pots
  rw [List.map_set]; rfl
/-- Currents that are asked of a net. -/
def Asked (N : Int) (L : List Wi) (cs : List Int) : Prop := NetG N L ∧ cs.length = L.length ∧ ∀ x ∈ cs, -1000000 ≤ x ∧ x ≤ 1000000

theorem max_ind (f : List Int) (k : Nat) (h0 : 0 < k) (hk : k ≤ f.length) : (∀ (i : Nat) u, i < k → f[i]? = some u → u ≤ Lib.maxOf (f.take k)) ∧ ∃ i, i < k ∧ f[i]? = some (Lib.maxOf (f.take k)) := by
  induction k with
  | zero => omega
  | succ k ih =>
    have hg : f[k]? = some (f.getD k 0) := by simp [List.getD, List.getElem?_eq_getElem (by omega : k < f.length)]
    rcases Nat.eq_zero_or_pos k with rfl | hp
    · rw [Lib.maxOf_one]
      refine ⟨fun i u hi hu => ?_, 0, by omega, hg⟩
      obtain rfl : i = 0 := by omega
      rw [hg] at hu; cases hu; exact Int.le_refl _
    · rw [Lib.maxOf_step f k hp (by omega)]
      obtain ⟨h1, j, hj, h2⟩ := ih hp (by omega)
      refine ⟨fun i u hi hu => ?_, ?_⟩
      · by_cases e : i = k
        · subst e
          rw [hg] at hu; cases hu; omega
        · have := h1 i u (by omega) hu; omega
      · by_cases e : f.getD k 0 ≤ Lib.maxOf (f.take k)
        · exact ⟨j, by omega, by rw [h2]; congr 1; omega⟩
        · exact ⟨k, by omega, by rw [hg]; congr 1; omega⟩
theorem max_le {f : List Int} {B : Int} (h0 : 0 < f.length) : Lib.maxOf (f.take f.length) ≤ B ↔ ∀ x ∈ f, x ≤ B := by
  obtain ⟨h1, i, hi, h2⟩ := max_ind f f.length h0 (Nat.le_refl _)
  constructor
  · intro h x hx
    obtain ⟨j, hj, rfl⟩ := List.mem_iff_getElem.1 hx
    have := h1 j _ hj (List.getElem?_eq_getElem hj)
    omega
  · intro h; exact h _ (List.mem_of_getElem? h2)
theorem min_ge {f : List Int} {B : Int} (h0 : 0 < f.length) : B ≤ Lib.minOf (f.take f.length) ↔ ∀ x ∈ f, B ≤ x := by
  obtain ⟨h1, i, hi, h2⟩ := min_ind f f.length h0 (Nat.le_refl _)
  constructor
  · intro h x hx
    obtain ⟨j, hj, rfl⟩ := List.mem_iff_getElem.1 hx
    have := h1 j _ hj (List.getElem?_eq_getElem hj)
    omega
  · intro h; exact h _ (List.mem_of_getElem? h2)
end Go.Proofs.Ythifflekbdeafaa
