/- Parts of a cut: plain mathematics. -/
import Derived.Test.YtmjdmedlkcmgiaaGeo
set_option linter.all false
namespace Go.Proofs.Ytmjdmedlkcmgiaa
open Go.RowKit

/-- A square lies in the rectangle that begins where f does. -/
def InR (f : Sq) (X Y : Int) (r : Sq) : Bool := decide (f.x ≤ r.x ∧ f.y ≤ r.y ∧ r.x + r.d ≤ f.x + X ∧ r.y + r.d ≤ f.y + Y)
theorem inR_iff {f r : Sq} {X Y : Int} : InR f X Y r = true ↔ (f.x ≤ r.x ∧ f.y ≤ r.y ∧ r.x + r.d ≤ f.x + X ∧ r.y + r.d ≤ f.y + Y) := by simp [InR]
def inN (f : Sq) (X Y : Int) (L : List Sq) (k : Nat) : List Nat := (List.range k).filter fun i => InR f X Y (L.getD i default)
def inL (f : Sq) (X Y : Int) (L : List Sq) (k : Nat) : List Int := (inN f X Y L k).map fun (i : Nat) => (i : Int)
def inA (f : Sq) (X Y : Int) (L : List Sq) (k : Nat) : Int := area ((L.take k).filter (InR f X Y))
theorem getD_of {L : List Sq} {k : Nat} {s : Sq} (h : L[k]? = some s) : L.getD k default = s := by simp [List.getD, h]
theorem inL_succ (f : Sq) (X Y : Int) (L : List Sq) (k : Nat) (s : Sq) (h : L[k]? = some s) : inL f X Y L (k + 1) = inL f X Y L k ++ (if InR f X Y s then [(k : Int)] else []) := by
  unfold inL inN
  rw [List.range_succ, List.filter_append, List.map_append]
  congr 1
  have e := getD_of h
  by_cases hq : InR f X Y s
  · rw [if_pos hq, List.filter_cons, if_pos (by rw [e]; exact hq)]; rfl
  · rw [if_neg hq, List.filter_cons, if_neg (by rw [e]; exact hq)]; rfl
theorem inA_succ (f : Sq) (X Y : Int) (L : List Sq) (k : Nat) (s : Sq) (h : L[k]? = some s) : inA f X Y L (k + 1) = inA f X Y L k + (if InR f X Y s then s.d * s.d else 0) := by
  unfold inA
  rw [List.take_add_one, h, List.filter_append, area_app]
  congr 1
  by_cases hq : InR f X Y s <;> simp [hq, area]
theorem inL_len (f : Sq) (X Y : Int) (L : List Sq) (k : Nat) : (inL f X Y L k).length ≤ k := by
  unfold inL inN
  rw [List.length_map]
  exact Nat.le_trans (List.length_filter_le _ _) (by simp)
theorem inL_zero (f : Sq) (X Y : Int) (L : List Sq) : inL f X Y L 0 = [] := rfl
theorem inA_zero (f : Sq) (X Y : Int) (L : List Sq) : inA f X Y L 0 = 0 := by simp [inA, area]
theorem mem_inN {f : Sq} {X Y : Int} {L : List Sq} {k j : Nat} : j ∈ inN f X Y L k ↔ j < k ∧ InR f X Y (L.getD j default) = true := by
  unfold inN; rw [List.mem_filter, List.mem_range]
theorem inN_nodup (f : Sq) (X Y : Int) (L : List Sq) (k : Nat) : (inN f X Y L k).Nodup := List.nodup_range.filter _

def wX (f q : Sq) : Int := q.x + q.d - f.x
def hY (f q : Sq) : Int := q.y + q.d - f.y
/-- The squares from the beginning of f to the end of q are a part, as the model says it. -/
def PartS (W H : Int) (L : List Sq) (i k : Nat) (f q : Sq) : Prop :=
  i ≠ k ∧ 0 < wX f q ∧ 0 < hY f q ∧ ¬ (wX f q = W ∧ hY f q = H) ∧ inA f (wX f q) (hY f q) L L.length = wX f q * hY f q ∧ 1 < (inL f (wX f q) (hY f q) L L.length).length
/-- The same as the program says it. -/
def PartI (L : List Sq) (f q : Sq) : Prop :=
  wX f q * hY f q - inA f (wX f q) (hY f q) L L.length = 0 ∧ 2 ≤ (inL f (wX f q) (hY f q) L L.length).length ∧ (inL f (wX f q) (hY f q) L L.length).length < L.length
theorem part_same {W H : Int} {L : List Sq} (hG : Good W H L) {i k : Nat} {f q : Sq} (hi : L[i]? = some f) (hk : L[k]? = some q) : PartI L f q ↔ PartS W H L i k f q := by
  obtain ⟨hW, hH, hn, hok, har⟩ := hG
  have wf := (hok i f hi).1
  have wq := (hok k q hk).1
  have hlen : (inL f (wX f q) (hY f q) L L.length).length = (inN f (wX f q) (hY f q) L L.length).length := by simp [inL]
  have hall : ∀ j s, L[j]? = some s → Within s W H := fun j s h => (hok j s h).1
  unfold PartI PartS
  rw [hlen]
  generalize hX : wX f q = X
  generalize hYY : hY f q = Y
  unfold wX at hX
  unfold hY at hYY
  unfold Within at wf wq
  constructor
  · rintro ⟨h1, h2, h3⟩
    obtain ⟨j, hj⟩ : ∃ j, j ∈ inN f X Y L L.length := List.exists_mem_of_length_pos (by omega)
    obtain ⟨hjl, hjr⟩ := mem_inN.1 hj
    rw [getD_of (List.getElem?_eq_getElem hjl), inR_iff] at hjr
    have wj := hall j _ (List.getElem?_eq_getElem hjl)
    unfold Within at wj
    refine ⟨?_, by omega, by omega, ?_, by omega, by omega⟩
    · rintro rfl
      obtain rfl : f = q := Option.some.inj (hi.symm.trans hk)
      have hsub : ∀ j ∈ inN f X Y L L.length, j = i := by
        intro j hj
        obtain ⟨hjl, hjr⟩ := mem_inN.1 hj
        rw [getD_of (List.getElem?_eq_getElem hjl), inR_iff] at hjr
        have hjg := List.getElem?_eq_getElem hjl
        have wj := hall j _ hjg
        unfold Within at wj
        rcases Nat.lt_trichotomy j i with h | h | h
        · exact absurd (show Over f L[j] by unfold Over; omega) ((hok i f hi).2.2.1 j _ h hjg)
        · exact h
        · exact absurd (show Over L[j] f by unfold Over; omega) ((hok j _ hjg).2.2.1 i f h hi)
      have hnd := inN_nodup f X Y L L.length
      match hl : inN f X Y L L.length, h2, hsub, hnd with
      | [], h2, _, _ => simp at h2
      | [a], h2, _, _ => simp at h2
      | a :: b :: r, _, hsub, hnd =>
        have ha := hsub a (by simp)
        have hb := hsub b (by simp)
        simp [ha, hb] at hnd
    · rintro ⟨e1, e2⟩
      have hfull : inN f X Y L L.length = List.range L.length := by
        unfold inN
        rw [List.filter_eq_self]
        intro j hj
        have hjl := List.mem_range.1 hj
        rw [getD_of (List.getElem?_eq_getElem hjl), inR_iff]
        have wj := hall j _ (List.getElem?_eq_getElem hjl)
        unfold Within at wj
        omega
      rw [hfull] at h3
      simp at h3
  · rintro ⟨h1, h2, h3, h4, h5, h6⟩
    refine ⟨by omega, by omega, ?_⟩
    rcases Nat.lt_or_ge (inN f X Y L L.length).length L.length with h | h
    · exact h
    · exfalso
      have hfull : ∀ j ∈ List.range L.length, InR f X Y (L.getD j default) = true := by
        have he : (inN f X Y L L.length).length = (List.range L.length).length := by
          have h1 : (inN f X Y L L.length).length ≤ (List.range L.length).length := List.length_filter_le _ _
          rw [List.length_range] at h1 ⊢
          omega
        exact List.length_filter_eq_length_iff.1 he
      have hA : inA f X Y L L.length = W * H := by
        rw [← har]
        unfold inA
        rw [List.take_of_length_le (Nat.le_refl _), List.filter_eq_self.2]
        intro s hs
        obtain ⟨j, hj⟩ := List.mem_iff_getElem?.1 hs
        have := hfull j (List.mem_range.2 (List.getElem?_eq_some_iff.1 hj).1)
        rwa [getD_of hj] at this
      rw [hA] at h5
      have a1 : X ≤ W := by omega
      have a2 : Y ≤ H := by omega
      rcases Int.lt_or_eq_of_le a1 with a | a
      · have b1 : X * Y ≤ X * H := Int.mul_le_mul_of_nonneg_left a2 (by omega)
        have b2 : X * H < W * H := Int.mul_lt_mul_of_pos_right a (by omega)
        omega
      · rcases Int.lt_or_eq_of_le a2 with b | b
        · subst a
          have b2 : X * Y < X * H := Int.mul_lt_mul_of_pos_left b (by omega)
          omega
        · exact h4 ⟨a, b⟩
theorem getB {L : List Sq} {k : Nat} {s : Sq} (h : L[k]? = some s) : L[k]! = s := by simp [getElem!_def, h]
/-- What the pair i, k adds to the list of parts. -/
noncomputable def cellP (W H : Int) (L : List Sq) (i k : Nat) : List (List Int) :=
  if dc (PartS W H L i k L[i]! L[k]!) then [inL L[i]! (wX L[i]! L[k]!) (hY L[i]! L[k]!) L L.length] else []
noncomputable def rowP (W H : Int) (L : List Sq) (i k : Nat) : List (List Int) := (List.range k).flatMap (cellP W H L i)
noncomputable def allP (W H : Int) (L : List Sq) (i : Nat) : List (List Int) := (List.range i).flatMap fun j => rowP W H L j L.length
theorem rowP_zero (W H : Int) (L : List Sq) (i : Nat) : rowP W H L i 0 = [] := rfl
theorem allP_zero (W H : Int) (L : List Sq) : allP W H L 0 = [] := rfl
theorem rowP_succ (W H : Int) (L : List Sq) (i k : Nat) : rowP W H L i (k + 1) = rowP W H L i k ++ cellP W H L i k := by simp [rowP, List.range_succ]
theorem allP_succ (W H : Int) (L : List Sq) (i : Nat) : allP W H L (i + 1) = allP W H L i ++ rowP W H L i L.length := by simp [allP, List.range_succ]
theorem cellP_yes {W H : Int} {L : List Sq} {i k : Nat} {f q : Sq} (hf : L[i]? = some f) (hq : L[k]? = some q) (h : PartS W H L i k f q) : cellP W H L i k = [inL f (wX f q) (hY f q) L L.length] := by
  unfold cellP; rw [getB hf, getB hq, dc_true h]; rfl
theorem cellP_no {W H : Int} {L : List Sq} {i k : Nat} {f q : Sq} (hf : L[i]? = some f) (hq : L[k]? = some q) (h : ¬ PartS W H L i k f q) : cellP W H L i k = [] := by
  unfold cellP; rw [getB hf, getB hq, dc_false h]; rfl
theorem rowP_len (W H : Int) (L : List Sq) (i k : Nat) : (rowP W H L i k).length ≤ k := by
  induction k with
  | zero => simp [rowP]
  | succ k ih =>
    rw [rowP_succ, List.length_append]
    have : (cellP W H L i k).length ≤ 1 := by unfold cellP; split <;> simp
    omega
theorem allP_len (W H : Int) (L : List Sq) (i : Nat) : (allP W H L i).length ≤ i * L.length := by
  induction i with
  | zero => simp [allP]
  | succ i ih =>
    rw [allP_succ, List.length_append, Nat.succ_mul]
    have := rowP_len W H L i L.length
    omega
theorem mem_allP {W H : Int} {L : List Sq} {n : Nat} {l : List Int} : l ∈ allP W H L n ↔ ∃ i k, i < n ∧ k < L.length ∧ l ∈ cellP W H L i k := by
  simp only [allP, rowP, List.mem_flatMap, List.mem_range]
  constructor
  · rintro ⟨i, hi, k, hk, h⟩; exact ⟨i, k, hi, hk, h⟩
  · rintro ⟨i, k, hi, hk, h⟩; exact ⟨i, hi, k, hk, h⟩
theorem allP_mem_len {W H : Int} {L : List Sq} {n : Nat} {l : List Int} (h : l ∈ allP W H L n) : l.length ≤ L.length := by
  obtain ⟨i, k, _, _, h⟩ := mem_allP.1 h
  unfold cellP at h
  split at h
  · rw [List.mem_singleton.1 h]; exact inL_len _ _ _ _ _
  · cases h
/-- No part. -/
def NoPart (L : List Sq) : Prop := ∀ (i k : Nat) f q, L[i]? = some f → L[k]? = some q → ¬ PartI L f q
theorem noPart_iff {W H : Int} {L : List Sq} (hG : Good W H L) : NoPart L ↔ allP W H L L.length = [] := by
  constructor
  · intro h
    rw [List.eq_nil_iff_forall_not_mem]
    intro l hl
    obtain ⟨i, k, hi, hk, hm⟩ := mem_allP.1 hl
    have gi := List.getElem?_eq_getElem hi
    have gk := List.getElem?_eq_getElem hk
    by_cases hp : PartS W H L i k L[i] L[k]
    · exact h i k _ _ gi gk ((part_same hG gi gk).2 hp)
    · rw [cellP_no gi gk hp] at hm; cases hm
  · intro h i k f q hi hk hp
    have hp' := (part_same hG hi hk).1 hp
    have : inL f (wX f q) (hY f q) L L.length ∈ allP W H L L.length :=
      mem_allP.2 ⟨i, k, (List.getElem?_eq_some_iff.1 hi).1, (List.getElem?_eq_some_iff.1 hk).1, by rw [cellP_yes hi hk hp']; simp⟩
    rw [h] at this; cases this

end Go.Proofs.Ytmjdmedlkcmgiaa
