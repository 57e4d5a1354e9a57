/- Levels of squares: plain mathematics. -/
import Derived.Test.YtmjdmedlkcmgiaaGrpG
import Derived.Test.YtmjdmedlkcmgiaaGeo
import Derived.Lib.SlicesCompact
set_option linter.all false
namespace Go.Proofs.Ytmjdmedlkcmgiaa
open Go.RowKit

theorem cu_congr (d d' : Array Int) (m : Nat) (h : ∀ j, j < m → d[j]! = d'[j]!) : Lib.compactUpTo d m = Lib.compactUpTo d' m := by
  induction m with
  | zero => rfl
  | succ m ih =>
    rw [Lib.compactUpTo_succ, Lib.compactUpTo_succ, ih (fun j hj => h j (by omega))]
    have hk : Lib.keeps d m = Lib.keeps d' m := by
      unfold Lib.keeps
      rw [h m (by omega)]
      rcases Nat.eq_zero_or_pos m with rfl | hm
      · simp
      · rw [h (m - 1) (by omega)]
    rw [hk, h m (by omega)]
theorem arr_left (T : List Int) (a : Int) (j : Nat) (h : j < T.length) : (T ++ [a]).toArray[j]! = T.toArray[j]! := by
  simp [getElem!_def, List.getElem?_append_left h]
theorem arr_last (T : List Int) (a : Int) : (T ++ [a]).toArray[T.length]! = a := by
  simp
theorem compact_nil : Lib.compact ([] : List Int) = [] := rfl
theorem compact_one (a : Int) : Lib.compact [a] = [a] := by
  unfold Lib.compact
  rw [show ([a] : List Int).length = 0 + 1 from rfl, Lib.compactUpTo_succ]
  simp [Lib.compactUpTo, Lib.keeps]
theorem compact_snoc (T : List Int) (b a : Int) : Lib.compact (T ++ [b] ++ [a]) = if b = a then Lib.compact (T ++ [b]) else Lib.compact (T ++ [b]) ++ [a] := by
  have hl : (T ++ [b] ++ [a]).length = (T ++ [b]).length + 1 := by simp
  unfold Lib.compact
  rw [hl, Lib.compactUpTo_succ, cu_congr (T ++ [b] ++ [a]).toArray (T ++ [b]).toArray _ (fun j hj => arr_left _ a j hj), arr_last]
  have hk : Lib.keeps (T ++ [b] ++ [a]).toArray (T ++ [b]).length = !decide (b = a) := by
    unfold Lib.keeps
    rw [arr_last]
    have h1 : (T ++ [b] ++ [a]).toArray[(T ++ [b]).length - 1]! = b := by
      rw [arr_left _ a _ (by simp)]
      have := arr_last T b
      rw [show (T ++ [b]).length - 1 = T.length by simp]
      exact this
    rw [h1]
    by_cases e : b = a
    · subst e; simp
    · simp [e, Ne.symm e]
  rw [hk]
  by_cases e : b = a <;> simp [e]

def ys (G : List (Sq × List Int)) : List Int := G.map (·.1.y)
def lev (L : List Sq) (k : Nat) : List Int := (L.take k).foldl (fun out s => if s.y ∈ out then out else out ++ [s.y]) []
theorem lev_succ (L : List Sq) (k : Nat) (s : Sq) (h : L[k]? = some s) : lev L (k + 1) = if s.y ∈ lev L k then lev L k else lev L k ++ [s.y] := by
  unfold lev
  rw [List.take_add_one, h]
  simp [List.foldl_append]
theorem lev_len (L : List Sq) (k : Nat) : (lev L k).length ≤ k := by
  induction k with
  | zero => simp [lev]
  | succ k ih =>
    rcases Nat.lt_or_ge k L.length with h | h
    · rw [lev_succ L k _ (List.getElem?_eq_getElem h)]
      split
      · omega
      · simp; omega
    · have e : lev L (k + 1) = lev L k := by unfold lev; rw [List.take_of_length_le (by omega), List.take_of_length_le h]
      rw [e]; omega
theorem lev_inv (L : List Sq) (hp : L.Pairwise lt2) (k : Nat) (s : Sq) (h : L[k]? = some s) : s.y ∈ lev L (k + 1) ∧ ∀ y ∈ lev L (k + 1), y ≤ s.y := by
  induction k generalizing s with
  | zero =>
    have e := lev_succ L 0 s h
    rw [show lev L 0 = [] by simp [lev]] at e
    rw [e]; simp
  | succ k ih =>
    obtain ⟨hk, _⟩ := List.getElem?_eq_some_iff.1 h
    have hg : L[k]? = some L[k] := List.getElem?_eq_getElem (by omega)
    obtain ⟨i1, i2⟩ := ih _ hg
    have hlt : lt2 L[k] s := by
      rw [List.pairwise_iff_getElem] at hp
      have := hp k (k + 1) (by omega) hk (by omega)
      rwa [(List.getElem?_eq_some_iff.1 h).2] at this
    have hle : L[k].y ≤ s.y := by unfold lt2 Less at hlt; omega
    rw [lev_succ L (k + 1) s h]
    split
    · refine ⟨by assumption, fun y hy => Int.le_trans (i2 y hy) hle⟩
    · refine ⟨by simp, fun y hy => ?_⟩
      rcases List.mem_append.1 hy with hy | hy
      · exact Int.le_trans (i2 y hy) hle
      · rw [List.mem_singleton.1 hy]; exact Int.le_refl _
theorem lev_compact (L : List Sq) (hp : L.Pairwise lt2) (k : Nat) (hk : k ≤ L.length) : Lib.compact (ys (grps (L.take k))) = lev L k := by
  induction k with
  | zero => simp [grps, ys, lev, compact_nil]
  | succ k ih =>
    have hg := List.getElem?_eq_getElem (show k < L.length by omega)
    have ih' := ih (by omega)
    rw [lev_succ L k _ hg, ← ih']
    rw [grps_take_succ L k _ hg]
    rcases Nat.eq_zero_or_pos k with rfl | hkp
    · simp [grps, gstep_nil, ys, compact_one, compact_nil]
    · obtain ⟨k', rfl⟩ : ∃ k', k = k' + 1 := ⟨k - 1, by omega⟩
      have hq : L[k']? = some L[k'] := List.getElem?_eq_getElem (by omega)
      obtain ⟨PG, lq, e⟩ := grps_last L k' _ hq
      obtain ⟨i1, i2⟩ := lev_inv L hp k' _ hq
      rw [← ih'] at i1 i2
      have hlt : lt2 L[k'] L[k' + 1] := by
        rw [List.pairwise_iff_getElem] at hp
        exact hp k' (k' + 1) (by omega) (by omega) (by omega)
      have hmem : L[k' + 1].y ∈ Lib.compact (ys (grps (L.take (k' + 1)))) ↔ L[k'].y = L[k' + 1].y := by
        constructor
        · intro hm
          have := i2 _ hm
          unfold lt2 Less at hlt
          omega
        · intro he; rw [← he]; exact i1
      rw [e] at hmem ⊢
      by_cases hn : Nxt L[k'] L[k' + 1] = true
      · rw [gstep_on PG _ _ hn]
        have hy : L[k'].y = L[k' + 1].y := by unfold Nxt at hn; simp at hn; exact hn.2
        rw [if_pos (hmem.2 hy)]
        simp [ys, hy]
      · rw [gstep_new PG _ _ (by simpa using hn)]
        have e1 : ys (PG ++ [(L[k'], lq)] ++ [(L[k' + 1], [L[k' + 1].d])]) = ys PG ++ [L[k'].y] ++ [L[k' + 1].y] := by simp [ys]
        have e2 : ys (PG ++ [(L[k'], lq)]) = ys PG ++ [L[k'].y] := by simp [ys]
        rw [e1, compact_snoc, e2]
        rw [e2] at hmem
        by_cases hy : L[k'].y = L[k' + 1].y
        · rw [if_pos hy, if_pos (hmem.2 hy)]
        · rw [if_neg hy, if_neg (fun h => hy (hmem.1 h))]
end Go.Proofs.Ytmjdmedlkcmgiaa
