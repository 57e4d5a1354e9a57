/- Squares laid where the columns are lowest: no program in sight. -/
import Derived.Test.YtebnekicbcdnaaaGood
set_option linter.all false
namespace Go.Proofs.Ytebnekicbcdnaaa

def FM (f : List Int) (x : Nat) (y : Int) : Prop := f[x]? = some y ∧ (∀ (i : Nat) u, f[i]? = some u → y ≤ u) ∧ (∀ (i : Nat) u, i < x → f[i]? = some u → y < u)
theorem FM.uniq {f : List Int} {x x' : Nat} {y y' : Int} (h : FM f x y) (h' : FM f x' y') : x = x' ∧ y = y' := by
  obtain ⟨a, b, c⟩ := h
  obtain ⟨a', b', c'⟩ := h'
  have e : y = y' := by have := b _ _ a'; have := b' _ _ a; omega
  subst e
  refine ⟨?_, rfl⟩
  rcases Nat.lt_trichotomy x x' with h | h | h
  · have := c' _ _ h a; omega
  · exact h
  · have := c _ _ h a'; omega
noncomputable def fm (f : List Int) : Nat × Int := Classical.epsilon fun p => FM f p.1 p.2
theorem fm_of {f : List Int} {x : Nat} {y : Int} (h : FM f x y) : fm f = (x, y) := by
  have := Classical.epsilon_spec (p := fun p : Nat × Int => FM f p.1 p.2) ⟨(x, y), h⟩
  obtain ⟨e1, e2⟩ := FM.uniq this h
  exact Prod.ext e1 e2
/-- Columns x .. x+n-1 are higher by v. -/
def liftF (f : List Int) (x n : Nat) (v : Int) : List Int := f.mapIdx fun i u => if x ≤ i ∧ i < x + n then u + v else u
theorem liftF_len (f : List Int) (x n : Nat) (v : Int) : (liftF f x n v).length = f.length := by simp [liftF]
theorem liftF_get (f : List Int) (x n : Nat) (v : Int) (i : Nat) : (liftF f x n v)[i]? = f[i]?.map fun u => if x ≤ i ∧ i < x + n then u + v else u := by simp [liftF]
theorem liftF_zero (f : List Int) (x : Nat) (v : Int) : liftF f x 0 v = f := by
  apply List.ext_getElem?
  intro i
  rw [liftF_get]
  cases h : f[i]? with
  | none => rfl
  | some u => simp only [Option.map_some, if_neg (by omega : ¬ (x ≤ i ∧ i < x + 0))]
theorem liftF_succ (f : List Int) (x n : Nat) (v u : Int) (h : f[x + n]? = some u) : liftF f x (n + 1) v = (liftF f x n v).set (x + n) (u + v) := by
  apply List.ext_getElem?
  intro i
  rw [liftF_get, List.getElem?_set, liftF_get, liftF_len]
  by_cases e : x + n = i
  · subst e
    have := (List.getElem?_eq_some_iff.1 h).1
    rw [if_pos rfl, if_pos this, h]
    simp only [Option.map_some, if_pos (by omega : x ≤ x + n ∧ x + n < x + (n + 1))]
  · rw [if_neg e]
    cases hi : f[i]? with
    | none => rfl
    | some z =>
      have : (x ≤ i ∧ i < x + (n + 1)) ↔ (x ≤ i ∧ i < x + n) := by omega
      simp [this]
theorem liftF_at (f : List Int) (x n : Nat) (v u : Int) (h : f[x + n]? = some u) : (liftF f x n v)[x + n]? = some u := by
  rw [liftF_get, h]
  simp only [Option.map_some, if_neg (by omega : ¬ (x ≤ x + n ∧ x + n < x + n))]
theorem sumF_set (f : List Int) (i : Nat) (u v : Int) (h : f[i]? = some u) : (f.set i (u + v)).sum = f.sum + v := by
  induction f generalizing i with
  | nil => simp at h
  | cons a r ih =>
    cases i with
    | zero => simp at h; subst h; simp; omega
    | succ i => simp at h; simp [ih i h]; omega
theorem sumF_lift (f : List Int) (x n : Nat) (v : Int) (h : x + n ≤ f.length) : (liftF f x n v).sum = f.sum + n * v := by
  induction n with
  | zero => simp [liftF_zero]
  | succ n ih =>
    obtain ⟨u, hu⟩ : ∃ u, f[x + n]? = some u := ⟨_, List.getElem?_eq_getElem (by omega)⟩
    rw [liftF_succ f x n v u hu, sumF_set _ _ _ _ (liftF_at f x n v u hu), ih (by omega)]
    have : ((n + 1 : Nat) : Int) * v = n * v + v := by rw [Int.natCast_succ, Int.add_mul, Int.one_mul]
    omega
/-- All columns x .. x+n-1 are y high. -/
def Lvl (f : List Int) (x n : Nat) (y : Int) : Prop := ∀ i, x ≤ i → i < x + n → f[i]? = some y
/-- The columns' heights f under the squares L. -/
structure StF (f : List Int) (L : List Sq) : Prop where
  top : ∀ (i : Nat) v, f[i]? = some v → v ≠ 0 → ∃ q ∈ L, q.x ≤ i ∧ (i : Int) < q.x + q.d ∧ q.y + q.d = v
  low : ∀ q ∈ L, ∀ (i : Nat) v, f[i]? = some v → q.y ≤ v
  nn : ∀ (i : Nat) v, f[i]? = some v → 0 ≤ v
  sum : f.sum = area L
theorem StF.start (n : Nat) : StF (List.replicate n 0) [] := by
  refine ⟨fun i v h hv => ?_, fun q hq => by simp at hq, fun i v h => ?_, ?_⟩
  · rw [List.getElem?_replicate] at h; split at h
    · cases h; exact absurd rfl hv
    · cases h
  · rw [List.getElem?_replicate] at h; split at h
    · cases h; omega
    · cases h
  · induction n with
    | zero => rfl
    | succ n ih => simpa [List.replicate_succ] using ih
theorem StF.next {f : List Int} {L : List Sq} {x : Nat} {y s : Int} (h : StF f L) (hm : FM f x y) (hs : 1 ≤ s) (hf : x + s.toNat ≤ f.length) (hl : Lvl f x s.toNat y) : StF (liftF f x s.toNat s) (L ++ [⟨x, y, s⟩]) := by
  obtain ⟨m0, m1, m2⟩ := hm
  refine ⟨fun i v hv hv0 => ?_, fun q hq i v hv => ?_, fun i v hv => ?_, ?_⟩
  · rw [liftF_get] at hv
    cases hi : f[i]? with
    | none => rw [hi] at hv; cases hv
    | some u =>
      rw [hi] at hv
      simp only [Option.map_some, Option.some.injEq] at hv
      by_cases hc : x ≤ i ∧ i < x + s.toNat
      · rw [if_pos hc] at hv
        have := hl i hc.1 hc.2
        rw [hi] at this; cases this
        exact ⟨_, List.mem_append_right _ (List.mem_singleton_self _), by simp; omega, by simp; omega, by simp; omega⟩
      · rw [if_neg hc] at hv
        subst hv
        obtain ⟨q, hq, r⟩ := h.top i u hi hv0
        exact ⟨q, List.mem_append_left _ hq, r⟩
  · rw [liftF_get] at hv
    cases hi : f[i]? with
    | none => rw [hi] at hv; cases hv
    | some u =>
      rw [hi] at hv
      simp only [Option.map_some, Option.some.injEq] at hv
      have hu := m1 i u hi
      have huv : u ≤ v := by split at hv <;> omega
      rcases List.mem_append.1 hq with hq | hq
      · have := h.low q hq i u hi; omega
      · simp at hq; subst hq; simp; omega
  · rw [liftF_get] at hv
    cases hi : f[i]? with
    | none => rw [hi] at hv; cases hv
    | some u =>
      rw [hi] at hv
      simp only [Option.map_some, Option.some.injEq] at hv
      have := h.nn i u hi
      split at hv <;> omega
  · rw [sumF_lift _ _ _ _ hf, area_app, h.sum]
    have : ((s.toNat : Nat) : Int) = s := by omega
    rw [this]; simp [area]
/-- Two of the squares overlap. -/
def LapF (L : List Sq) : Prop := ∃ (i j : Nat) (p q : Sq), i < j ∧ L[i]? = some p ∧ L[j]? = some q ∧ Over q p
theorem LapF.app {L : List Sq} (h : LapF L) (M : List Sq) : LapF (L ++ M) := by
  obtain ⟨i, j, p, q, hij, hp, hq, ho⟩ := h
  have h1 := (List.getElem?_eq_some_iff.1 hp).1
  have h2 := (List.getElem?_eq_some_iff.1 hq).1
  exact ⟨i, j, p, q, hij, by rw [List.getElem?_append_left h1]; exact hp, by rw [List.getElem?_append_left h2]; exact hq, ho⟩
theorem LapF.no {W H : Int} {L : List Sq} (h : LapF L) : ¬ Good W H L := by
  obtain ⟨i, j, p, q, hij, hp, hq, ho⟩ := h
  intro hG
  exact (hG.2.2.2.1 j q hq).2.2.1 i p hij hp ho
theorem StF.lap {f : List Int} {L : List Sq} {x : Nat} {y s : Int} (h : StF f L) (hm : FM f x y) (hs : 1 ≤ s) (hf : x + s.toNat ≤ f.length) (hl : ¬ Lvl f x s.toNat y) : LapF (L ++ [⟨x, y, s⟩]) := by
  obtain ⟨m0, m1, m2⟩ := hm
  have : ∃ i, x ≤ i ∧ i < x + s.toNat ∧ f[i]? ≠ some y := by
    apply Classical.byContradiction
    intro hn
    exact hl fun i h1 h2 => Classical.byContradiction fun h3 => hn ⟨i, h1, h2, h3⟩
  obtain ⟨i, h1, h2, h3⟩ := this
  obtain ⟨u, hu⟩ : ∃ u, f[i]? = some u := ⟨_, List.getElem?_eq_getElem (by omega)⟩
  have h4 := m1 i u hu
  have h5 : u ≠ y := fun e => h3 (e ▸ hu)
  have h6 := h.nn x y m0
  obtain ⟨q, hq, q1, q2, q3⟩ := h.top i u hu (by omega)
  have q4 := h.low q hq x y m0
  obtain ⟨k, hk, e⟩ := List.mem_iff_getElem.1 hq
  refine ⟨k, L.length, q, ⟨x, y, s⟩, hk, ?_, by simp, ?_⟩
  · rw [List.getElem?_append_left hk, List.getElem?_eq_getElem hk, e]
  · unfold Over; simp; omega
theorem sumF_le (f : List Int) (v : Int) (h : ∀ u ∈ f, u ≤ v) : f.sum ≤ f.length * v ∧ (f.sum = f.length * v → ∀ u ∈ f, u = v) := by
  induction f with
  | nil => simp
  | cons a r ih =>
    have h1 := ih fun u hu => h u (List.mem_cons_of_mem _ hu)
    have h2 := h a List.mem_cons_self
    have e : ((r.length + 1 : Nat) : Int) * v = r.length * v + v := by rw [Int.natCast_succ, Int.add_mul, Int.one_mul]
    simp only [List.sum_cons, List.length_cons, e]
    refine ⟨by omega, fun hs u hu => ?_⟩
    rcases List.mem_cons.1 hu with rfl | hu
    · omega
    · exact h1.2 (by omega) u hu
/-- If the squares are a cut of some height that column 0 has, all columns are as high. -/
theorem StF.flat {f : List Int} {L : List Sq} {W H : Int} (h : StF f L) (hf : (f.length : Int) = W) (hG : Good W H L) : ∀ (i : Nat) v, f[i]? = some v → v = H := by
  have hle : ∀ u ∈ f, u ≤ H := by
    intro u hu
    obtain ⟨i, hi, e⟩ := List.mem_iff_getElem.1 hu
    have hi' : f[i]? = some u := by rw [List.getElem?_eq_getElem hi, e]
    by_cases hu0 : u = 0
    · have := hG.2.1.1; omega
    · obtain ⟨q, hq, q1, q2, q3⟩ := h.top i u hi' hu0
      obtain ⟨k, hk, e⟩ := List.mem_iff_getElem.1 hq
      have := (hG.2.2.2.1 k q (by rw [List.getElem?_eq_getElem hk, e])).1
      unfold Within at this; omega
  have := (sumF_le f H hle).2 (by rw [h.sum, hG.2.2.2.2, hf])
  intro i v hv
  exact this v (List.mem_of_getElem? hv)
/-- A square that reaches above the greatest height makes no cut. -/
theorem tall_no {W H : Int} {L : List Sq} {q : Sq} (hq : q ∈ L) (ht : 500 < q.y + q.d) : ¬ Good W H L := by
  intro hG
  obtain ⟨k, hk, e⟩ := List.mem_iff_getElem.1 hq
  have := (hG.2.2.2.1 k q (by rw [List.getElem?_eq_getElem hk, e])).1
  have := hG.2.1.2
  unfold Within at *; omega
/-- The width's n columns may take a square of side s where they are lowest. -/
def FitsF (W : Nat) (f : List Int) (s : Int) : Prop := 1 ≤ s ∧ (fm f).1 + s.toNat ≤ W ∧ Lvl f (fm f).1 s.toNat (fm f).2
noncomputable def putF (W : Nat) (st : List Int × List Sq) (s : Int) : Option (List Int × List Sq) :=
  @ite _ (FitsF W st.1 s) (Classical.propDecidable _) (some (liftF st.1 (fm st.1).1 s.toNat s, st.2 ++ [⟨(fm st.1).1, (fm st.1).2, s⟩])) none
/-- The squares of sides d, each laid where the columns are lowest. -/
noncomputable def runF (W : Nat) : List Int → List Int × List Sq → Option (List Int × List Sq)
  | [], st => some st
  | s :: d, st => match putF W st s with
    | none => none
    | some st' => runF W d st'
theorem putF_yes {W : Nat} {f : List Int} {L : List Sq} {s : Int} {x : Nat} {y : Int} (hm : FM f x y) (h1 : 1 ≤ s) (h2 : x + s.toNat ≤ W) (h3 : Lvl f x s.toNat y) : putF W (f, L) s = some (liftF f x s.toNat s, L ++ [⟨x, y, s⟩]) := by
  have e := fm_of hm
  unfold putF
  simp only [e]
  rw [if_pos]
  unfold FitsF
  simp only [e]
  exact ⟨h1, h2, h3⟩
theorem putF_no {W : Nat} {f : List Int} {L : List Sq} {s : Int} {x : Nat} {y : Int} (hm : FM f x y) (h : ¬ (1 ≤ s ∧ x + s.toNat ≤ W ∧ Lvl f x s.toNat y)) : putF W (f, L) s = none := by
  have e := fm_of hm
  unfold putF
  simp only [e]
  rw [if_neg]
  unfold FitsF
  simp only [e]
  exact h
theorem runF_app (W : Nat) (d e : List Int) (st : List Int × List Sq) : runF W (d ++ e) st = match runF W d st with | none => none | some st' => runF W e st' := by
  induction d generalizing st with
  | nil => rfl
  | cons s d ih =>
    simp only [List.cons_append, runF]
    cases putF W st s with
    | none => rfl
    | some st' => exact ih st'
def st0 (W : Nat) : List Int × List Sq := (List.replicate W 0, [])
theorem runF_snoc {W : Nat} {d : List Int} {k : Nat} {s : Int} {st : List Int × List Sq} (hk : d[k]? = some s) (h : runF W (d.take k) (st0 W) = some st) : runF W (d.take (k + 1)) (st0 W) = putF W st s := by
  rw [List.take_add_one, hk, runF_app, h]
  simp only [Option.toList_some, runF]
  cases putF W st s <;> rfl
theorem runF_none {W : Nat} {d : List Int} {k : Nat} (h : runF W (d.take k) (st0 W) = none) : runF W d (st0 W) = none := by
  rw [← List.take_append_drop k d, runF_app, h]
theorem fm_ex {f : List Int} (h : 0 < f.length) : ∃ x y, FM f x y := by
  induction f with
  | nil => simp at h
  | cons a r ih =>
    rcases Nat.eq_zero_or_pos r.length with h0 | h0
    · have : r = [] := List.eq_nil_of_length_eq_zero h0
      subst this
      refine ⟨0, a, rfl, fun i u hu => ?_, fun i u hi => by omega⟩
      cases i with
      | zero => simp at hu; omega
      | succ i => simp at hu
    · obtain ⟨x, y, m0, m1, m2⟩ := ih h0
      by_cases hy : a ≤ y
      · refine ⟨0, a, rfl, fun i u hu => ?_, fun i u hi => by omega⟩
        cases i with
        | zero => simp at hu; omega
        | succ i => simp at hu; have := m1 i u hu; omega
      · refine ⟨x + 1, y, by simpa using m0, fun i u hu => ?_, fun i u hi hu => ?_⟩
        · cases i with
          | zero => simp at hu; omega
          | succ i => simp at hu; exact m1 i u hu
        · cases i with
          | zero => simp at hu; omega
          | succ i => simp at hu; exact m2 i u (by omega) hu
theorem putF_some {W : Nat} {f : List Int} {L : List Sq} {s : Int} {st' : List Int × List Sq} (h : putF W (f, L) s = some st') (hl : f.length = W) (hst : StF f L) (hW : 0 < W) :
    st'.1.length = W ∧ StF st'.1 st'.2 ∧ ∃ q, st'.2 = L ++ [q] := by
  obtain ⟨x, y, hm⟩ := fm_ex (f := f) (by omega)
  by_cases hc : 1 ≤ s ∧ x + s.toNat ≤ W ∧ Lvl f x s.toNat y
  · rw [putF_yes hm hc.1 hc.2.1 hc.2.2] at h
    cases h
    exact ⟨by simpa [liftF_len] using hl, hst.next hm hc.1 (by omega) hc.2.2, _, rfl⟩
  · rw [putF_no hm hc] at h; cases h
theorem runF_some {W : Nat} {d : List Int} {f : List Int} {L : List Sq} {st' : List Int × List Sq} (h : runF W d (f, L) = some st') (hl : f.length = W) (hst : StF f L) (hW : 0 < W) :
    st'.1.length = W ∧ StF st'.1 st'.2 ∧ ∃ M, st'.2 = L ++ M := by
  induction d generalizing f L with
  | nil => simp only [runF, Option.some.injEq] at h; subst h; exact ⟨hl, hst, [], by simp⟩
  | cons s d ih =>
    simp only [runF] at h
    cases hp : putF W (f, L) s with
    | none => rw [hp] at h; cases h
    | some st1 =>
      rw [hp] at h
      obtain ⟨a, b, q, e⟩ := putF_some hp hl hst hW
      obtain ⟨f1, L1⟩ := st1
      obtain ⟨a', b', M, e'⟩ := ih h a b
      exact ⟨a', b', q :: M, by rw [e']; simp only at e; rw [e]; simp⟩
theorem runF_sides {W : Nat} {d : List Int} {st st' : List Int × List Sq} (h : runF W d st = some st') : st'.2.map (·.d) = st.2.map (·.d) ++ d := by
  induction d generalizing st with
  | nil => simp only [runF, Option.some.injEq] at h; subst h; simp
  | cons s d ih =>
    simp only [runF] at h
    cases hp : putF W st s with
    | none => rw [hp] at h; cases h
    | some st1 =>
      rw [hp] at h
      rw [ih h]
      unfold putF at hp
      split at hp
      · cases hp; simp
      · cases hp
theorem start_st {W : Nat} {d : List Int} {f : List Int} {L : List Sq} (h : runF W d (st0 W) = some (f, L)) (hW : 0 < W) : f.length = W ∧ StF f L := by
  obtain ⟨a, b, _⟩ := runF_some h (by simp) (StF.start W) hW
  exact ⟨a, b⟩
/-- The height, the squares and whether there is a cut. -/
noncomputable def fillR (W : Int) (d : List Int) : Int × List Sq × Bool :=
  match runF W.toNat d (st0 W.toNat) with
  | none => (0, [], false)
  | some (f, L) => @ite _ (Good W (f.headD 0) L) (Classical.propDecidable _) (f.headD 0, L, true) (0, [], false)
theorem fillR_none {W : Int} {d : List Int} (h : runF W.toNat d (st0 W.toNat) = none) : fillR W d = (0, [], false) := by unfold fillR; rw [h]
theorem fillR_yes {W : Int} {d : List Int} {f : List Int} {L : List Sq} (h : runF W.toNat d (st0 W.toNat) = some (f, L)) (hG : Good W (f.headD 0) L) : fillR W d = (f.headD 0, L, true) := by
  unfold fillR; rw [h]; exact if_pos hG
theorem fillR_no {W : Int} {d : List Int} {f : List Int} {L : List Sq} (h : runF W.toNat d (st0 W.toNat) = some (f, L)) (hG : ¬ Good W (f.headD 0) L) : fillR W d = (0, [], false) := by
  unfold fillR; rw [h]; exact if_neg hG

theorem goodF_sides {W H : Int} {L : List Sq} (hG : Good W H L) : ∀ s ∈ L, 1 ≤ s.d ∧ s.d ≤ 500 := by
  intro s hs
  obtain ⟨k, hk, e⟩ := List.mem_iff_getElem.1 hs
  have := hG.2.2.2.1 k s (by rw [List.getElem?_eq_getElem hk, e])
  have h2 := this.1
  unfold Within at h2
  exact ⟨h2.1, this.2.1⟩
/-- What is out of the bounds is none. -/
theorem fillR_pre {W : Int} {d : List Int} (h : ¬ ((1 ≤ W ∧ W ≤ 500) ∧ (1 ≤ d.length ∧ d.length ≤ 30) ∧ ∀ s ∈ d, 1 ≤ s ∧ s ≤ 500)) : fillR W d = (0, [], false) := by
  cases hr : runF W.toNat d (st0 W.toNat) with
  | none => exact fillR_none hr
  | some st =>
    obtain ⟨f, L⟩ := st
    refine fillR_no hr fun hG => h ?_
    have e := runF_sides hr
    simp only [st0, List.map_nil, List.nil_append] at e
    have hl : L.length = d.length := by rw [← e, List.length_map]
    refine ⟨hG.1, by rw [← hl]; exact hG.2.2.1, fun s hs => ?_⟩
    rw [← e] at hs
    obtain ⟨q, hq, rfl⟩ := List.mem_map.1 hs
    exact goodF_sides hG q hq
/-- A square too far up, laid as the k-th, makes none. -/
theorem fillR_tall {W : Int} {d : List Int} {k : Nat} {s : Int} {f : List Int} {L : List Sq} {x : Nat} {y : Int} (hW : 1 ≤ W) (hk : d[k]? = some s) (h : runF W.toNat (d.take k) (st0 W.toNat) = some (f, L)) (hm : FM f x y) (ht : 500 < y + s) : fillR W d = (0, [], false) := by
  have hk' := runF_snoc hk h
  obtain ⟨hl, hst⟩ := start_st h (by omega)
  by_cases hc : 1 ≤ s ∧ x + s.toNat ≤ W.toNat ∧ Lvl f x s.toNat y
  · rw [putF_yes hm hc.1 hc.2.1 hc.2.2] at hk'
    cases hr : runF W.toNat d (st0 W.toNat) with
    | none => exact fillR_none hr
    | some st =>
      obtain ⟨f', L'⟩ := st
      refine fillR_no hr ?_
      rw [← List.take_append_drop (k + 1) d, runF_app, hk'] at hr
      obtain ⟨_, _, M, e⟩ := runF_some hr (by rw [liftF_len]; exact hl) (hst.next hm hc.1 (by omega) hc.2.2) (by omega)
      simp only at e
      rw [e]
      exact tall_no (q := ⟨x, y, s⟩) (by simp) ht
  · rw [putF_no hm hc] at hk'
    exact fillR_none (runF_none hk')
theorem fillR_stop {W : Int} {d : List Int} {k : Nat} {s : Int} {f : List Int} {L : List Sq} {x : Nat} {y : Int} (hk : d[k]? = some s) (h : runF W.toNat (d.take k) (st0 W.toNat) = some (f, L)) (hm : FM f x y) (hc : ¬ (1 ≤ s ∧ x + s.toNat ≤ W.toNat ∧ Lvl f x s.toNat y)) : fillR W d = (0, [], false) := by
  have hk' := runF_snoc hk h
  rw [putF_no hm hc] at hk'
  exact fillR_none (runF_none hk')
theorem headF_at {f : List Int} (h : 0 < f.length) : f[0]? = some (f.headD 0) := by
  cases f with
  | nil => simp at h
  | cons a r => rfl
/-- At the end: the least column as the height says the same as the first one. -/
theorem fillR_min {W : Int} {d : List Int} {f : List Int} {L : List Sq} {x : Nat} {y : Int} (hW : 1 ≤ W) (h : runF W.toNat d (st0 W.toNat) = some (f, L)) (hm : FM f x y) :
    (Good W y L → fillR W d = (y, L, true)) ∧ (¬ Good W y L → fillR W d = (0, [], false)) := by
  obtain ⟨hl, hst⟩ := start_st h (by omega)
  have hh := headF_at (f := f) (by omega)
  refine ⟨fun hG => ?_, fun hG => ?_⟩
  · have e := hst.flat (by omega) hG 0 _ hh
    rw [fillR_yes h (by rw [e]; exact hG), e]
  · refine fillR_no h fun hG' => hG ?_
    have e := hst.flat (by omega) hG' x y hm.1
    rw [e]; exact hG'

/-- Where the program stands after k squares: it goes on as long as the squares lie within, whether or not they overlap. -/
structure FI (W : Int) (d : List Int) (k : Nat) (f : List Int) (L : List Sq) : Prop where
  len : f.length = W.toNat
  bd : ∀ (i : Nat) v, f[i]? = some v → 0 ≤ v ∧ v ≤ 500 * k
  fine : ∀ q ∈ L, Within q W 500
  num : L.length = k
  way : runF W.toNat (d.take k) (st0 W.toNat) = some (f, L) ∨ (runF W.toNat (d.take k) (st0 W.toNat) = none ∧ LapF L)
theorem FI.start (W : Int) (d : List Int) : FI W d 0 (List.replicate W.toNat 0) [] := by
  refine ⟨by simp, fun i v h => ?_, fun q hq => by simp at hq, rfl, .inl rfl⟩
  rw [List.getElem?_replicate] at h; split at h
  · cases h; omega
  · cases h
theorem FI.next {W : Int} {d : List Int} {k : Nat} {f : List Int} {L : List Sq} {s y : Int} {x : Nat} (h : FI W d k f L) (hW : 1 ≤ W) (hk : d[k]? = some s) (hm : FM f x y) (h1 : 1 ≤ s) (h2 : (x : Int) ≤ W - s) (h3 : y ≤ 500 - s) :
    FI W d (k + 1) (liftF f x s.toNat s) (L ++ [⟨x, y, s⟩]) := by
  have hy := h.bd x y hm.1
  refine ⟨by rw [liftF_len]; exact h.len, fun i v hv => ?_, fun q hq => ?_, by simp [h.num], ?_⟩
  · rw [liftF_get] at hv
    cases hi : f[i]? with
    | none => rw [hi] at hv; cases hv
    | some u =>
      rw [hi] at hv
      simp only [Option.map_some, Option.some.injEq] at hv
      have := h.bd i u hi
      split at hv <;> omega
  · rcases List.mem_append.1 hq with hq | hq
    · exact h.fine q hq
    · simp only [List.mem_singleton] at hq; subst hq; unfold Within; simp only; omega
  · rcases h.way with hr | ⟨hr, hl⟩
    · have hs := runF_snoc hk hr
      by_cases hc : Lvl f x s.toNat y
      · rw [putF_yes hm h1 (by omega) hc] at hs
        exact .inl hs
      · rw [putF_no hm (fun h => hc h.2.2)] at hs
        have hl := h.len
        exact .inr ⟨hs, (start_st hr (by omega)).2.lap hm h1 (by omega) hc⟩
    · refine .inr ⟨?_, hl.app _⟩
      rw [List.take_add_one, runF_app, hr]
theorem FI.out {W : Int} {d : List Int} {k : Nat} {f : List Int} {L : List Sq} {s y : Int} {x : Nat} (h : FI W d k f L) (hW : 1 ≤ W) (hk : d[k]? = some s) (hm : FM f x y) (hn : ¬ (1 ≤ s ∧ (x : Int) ≤ W - s ∧ y ≤ 500 - s)) : fillR W d = (0, [], false) := by
  rcases h.way with hr | ⟨hr, _⟩
  · by_cases hc : 1 ≤ s ∧ x + s.toNat ≤ W.toNat ∧ Lvl f x s.toNat y
    · exact fillR_tall hW hk hr hm (by omega)
    · exact fillR_stop hk hr hm hc
  · exact fillR_none (runF_none hr)
theorem FI.fin {W : Int} {d : List Int} {f : List Int} {L : List Sq} {y : Int} {x : Nat} (h : FI W d d.length f L) (hW : 1 ≤ W) (hm : FM f x y) :
    (Good W y L → fillR W d = (y, L, true)) ∧ (¬ Good W y L → fillR W d = (0, [], false)) := by
  have hw := h.way
  rw [List.take_of_length_le (Nat.le_refl _)] at hw
  rcases hw with hr | ⟨hr, hl⟩
  · exact fillR_min hW hr hm
  · exact ⟨fun hG => absurd hG hl.no, fun _ => fillR_none hr⟩

end Go.Proofs.Ytebnekicbcdnaaa
