/- Lines of a cut: plain. -/
import Derived.Test.YtnnhgblgbbfmpaaLongG
set_option linter.all false
namespace Go.Proofs.Ytnnhgblgbbfmpaa
namespace M
structure Ln where
  y : Int
  a : Int
  b : Int
/-- These stretches are the greatest ones of this set, in order. -/
structure IsLines (P : Int → Int → Prop) (R : List Ln) : Prop where
  ne : ∀ r ∈ R, r.a < r.b
  cov : ∀ y x, P y x ↔ ∃ r ∈ R, r.y = y ∧ r.a ≤ x ∧ x < r.b
  ord : R.Pairwise fun r t => r.y < t.y ∨ r.y = t.y ∧ r.b < t.a
def Mx (P : Int → Int → Prop) (r : Ln) : Prop := r.a < r.b ∧ (∀ x, r.a ≤ x → x < r.b → P r.y x) ∧ ¬ P r.y (r.a - 1) ∧ ¬ P r.y r.b
theorem pair_or {α : Type} {Q : α → α → Prop} {R : List α} (h : R.Pairwise Q) {r t : α} (hr : r ∈ R) (ht : t ∈ R) : r = t ∨ Q r t ∨ Q t r := by
  induction R with
  | nil => simp at hr
  | cons u R ih =>
    obtain ⟨h1, h2⟩ := List.pairwise_cons.1 h
    rcases List.mem_cons.1 hr with e | hr' <;> rcases List.mem_cons.1 ht with k | ht'
    · exact .inl (e.trans k.symm)
    · exact .inr (.inl (e ▸ h1 t ht'))
    · exact .inr (.inr (k ▸ h1 r hr'))
    · exact ih h2 hr' ht'
theorem IsLines.mx {P : Int → Int → Prop} {R : List Ln} (h : IsLines P R) {r : Ln} (hr : r ∈ R) : Mx P r := by
  have hn := h.ne r hr
  refine ⟨hn, fun x h1 h2 => (h.cov r.y x).2 ⟨r, hr, rfl, h1, h2⟩, fun hp => ?_, fun hp => ?_⟩
  · obtain ⟨t, ht, e, t1, t2⟩ := (h.cov _ _).1 hp
    have := h.ne t ht
    rcases pair_or h.ord hr ht with rfl | hq | hq <;> omega
  · obtain ⟨t, ht, e, t1, t2⟩ := (h.cov _ _).1 hp
    have := h.ne t ht
    rcases pair_or h.ord hr ht with rfl | hq | hq <;> omega
theorem IsLines.of_mx {P : Int → Int → Prop} {R : List Ln} (h : IsLines P R) {r : Ln} (hr : Mx P r) : r ∈ R := by
  obtain ⟨h1, h2, h3, h4⟩ := hr
  obtain ⟨t, ht, e, t1, t2⟩ := (h.cov _ _).1 (h2 r.a (Int.le_refl _) h1)
  obtain ⟨m1, m2, m3, m4⟩ := h.mx ht
  have ea : t.a = r.a := by
    apply Int.le_antisymm t1
    apply Int.le_of_not_gt
    intro hlt
    apply h3
    rw [← e]
    exact m2 _ (by omega) (by omega)
  have eb : t.b = r.b := by
    apply Int.le_antisymm
    · apply Int.le_of_not_gt
      intro hlt
      apply h4
      rw [← e]
      exact m2 _ (by omega) (by omega)
    · apply Int.le_of_not_gt
      intro hlt
      apply m4
      rw [e]
      exact h2 _ (by omega) (by omega)
  obtain ⟨ty, ta, tb⟩ := t
  obtain ⟨ry, ra, rb⟩ := r
  simp only at e ea eb
  subst e ea eb
  exact ht
theorem sorted_ext {α : Type} {lt : α → α → Prop} (hi : ∀ a, ¬ lt a a) (ha : ∀ a b, lt a b → ¬ lt b a) : ∀ (R T : List α), R.Pairwise lt → T.Pairwise lt → (∀ x, x ∈ R ↔ x ∈ T) → R = T
  | [], [], _, _, _ => rfl
  | [], t :: T, _, _, h => by have := (h t).2 List.mem_cons_self; simp at this
  | r :: R, [], _, _, h => by have := (h r).1 List.mem_cons_self; simp at this
  | r :: R, t :: T, hR, hT, h => by
    obtain ⟨r1, r2⟩ := List.pairwise_cons.1 hR
    obtain ⟨t1, t2⟩ := List.pairwise_cons.1 hT
    have e : r = t := by
      rcases List.mem_cons.1 ((h r).1 List.mem_cons_self) with e | hr
      · exact e
      · rcases List.mem_cons.1 ((h t).2 List.mem_cons_self) with e | ht
        · exact e.symm
        · exact absurd (r1 t ht) (ha _ _ (t1 r hr))
    subst e
    rw [sorted_ext hi ha R T r2 t2 fun x => ?_]
    constructor
    · intro hx
      rcases List.mem_cons.1 ((h x).1 (List.mem_cons_of_mem _ hx)) with rfl | hx'
      · exact absurd (r1 x hx) (hi x)
      · exact hx'
    · intro hx
      rcases List.mem_cons.1 ((h x).2 (List.mem_cons_of_mem _ hx)) with rfl | hx'
      · exact absurd (t1 x hx) (hi x)
      · exact hx'
theorem IsLines.uniq {P : Int → Int → Prop} {R T : List Ln} (h : IsLines P R) (k : IsLines P T) : R = T := by
  have key : ∀ {R : List Ln}, IsLines P R → R.Pairwise fun r t => r.y < t.y ∨ r.y = t.y ∧ r.a < t.a := fun {R} h => by
    refine List.Pairwise.imp_of_mem (fun {r t} hr ht hq => ?_) h.ord
    have := h.ne r hr
    omega
  exact sorted_ext (fun a => by omega) (fun a b => by omega) R T (key h) (key k) fun x => ⟨fun hx => k.of_mx (h.mx hx), fun hx => h.of_mx (k.mx hx)⟩
theorem IsLines.congr {P Q : Int → Int → Prop} {R : List Ln} (h : IsLines P R) (e : ∀ y x, P y x ↔ Q y x) : IsLines Q R := ⟨h.ne, fun y x => (e y x).symm.trans (h.cov y x), h.ord⟩
/-- What lies before this place. -/
def Pd (P : Int → Int → Prop) (y x : Int) (y' x' : Int) : Prop := P y' x' ∧ (y' < y ∨ y' = y ∧ x' < x)
/-- The model's state at a place: the lines, and where a line began, or -1. -/
structure St (P : Int → Int → Prop) (y x f : Int) (R : List Ln) : Prop where
  f1 : -1 ≤ f
  no : f = -1 → ¬ P y (x - 1) ∧ IsLines (Pd P y x) R
  on : 0 ≤ f → f < x ∧ (∀ i, f ≤ i → i < x → P y i) ∧ ¬ P y (f - 1) ∧ IsLines (Pd P y f) R
theorem snoc {P : Int → Int → Prop} {y a b : Int} {R : List Ln} (hab : a < b) (h : IsLines (Pd P y a) R) (hp : ∀ i, a ≤ i → i < b → P y i) (h0 : ¬ P y (a - 1)) (h1 : ¬ P y b) : IsLines (Pd P y (b + 1)) (R ++ [⟨y, a, b⟩]) := by
  refine ⟨fun r hr => ?_, fun y' x' => ?_, ?_⟩
  · rcases List.mem_append.1 hr with hr | hr
    · exact h.ne r hr
    · simp at hr; subst hr; exact hab
  · constructor
    · rintro ⟨hP, hl⟩
      by_cases c : y' < y ∨ y' = y ∧ x' < a
      · obtain ⟨r, hr, k⟩ := (h.cov y' x').1 ⟨hP, c⟩
        exact ⟨r, List.mem_append_left _ hr, k⟩
      · obtain rfl : y' = y := by omega
        have hne : x' ≠ b := by rintro rfl; exact h1 hP
        exact ⟨_, List.mem_append_right _ (List.mem_singleton.2 rfl), rfl, by show a ≤ x'; omega, by show x' < b; omega⟩
    · rintro ⟨r, hr, k1, k2, k3⟩
      rcases List.mem_append.1 hr with hr | hr
      · obtain ⟨q1, q2⟩ := (h.cov y' x').2 ⟨r, hr, k1, k2, k3⟩
        exact ⟨q1, by omega⟩
      · simp at hr
        subst hr
        simp only at k1 k2 k3
        subst k1
        exact ⟨hp x' k2 k3, by omega⟩
  · refine List.pairwise_append.2 ⟨h.ord, List.pairwise_singleton _ _, fun r hr t ht => ?_⟩
    simp at ht
    subst ht
    have hn := h.ne r hr
    obtain ⟨q1, q2⟩ := (h.cov r.y (r.b - 1)).2 ⟨r, hr, rfl, by omega, by omega⟩
    show r.y < y ∨ r.y = y ∧ r.b < a
    by_cases c : r.y < y
    · exact .inl c
    · right
      have e : r.y = y := by omega
      refine ⟨e, ?_⟩
      have h2 : r.b ≤ a := by omega
      by_cases c2 : r.b = a
      · exfalso
        apply h0
        rw [← e, ← c2]
        exact q1
      · omega
theorem St.row {P : Int → Int → Prop} {y : Int} {R : List Ln} (h : IsLines (Pd P y 0) R) (h0 : ¬ P y (-1)) : St P y 0 (-1) R :=
  ⟨Int.le_refl _, fun _ => ⟨h0, h⟩, fun h => by omega⟩
theorem St.step_yes {P : Int → Int → Prop} {y x f : Int} {R : List Ln} (h : St P y x f R) (hx : 0 ≤ x) (hp : P y x) : St P y (x + 1) (if f < 0 then x else f) R := by
  have hf := h.f1
  by_cases c : f < 0
  · rw [if_pos c]
    obtain ⟨a, b⟩ := h.no (by omega)
    exact ⟨by omega, fun e => by omega, fun _ => ⟨by omega, fun i h1 h2 => by rw [show i = x by omega]; exact hp, a, b⟩⟩
  · rw [if_neg c]
    obtain ⟨a, b, d, e⟩ := h.on (by omega)
    refine ⟨hf, fun e => by omega, fun _ => ⟨by omega, fun i h1 h2 => ?_, d, e⟩⟩
    by_cases k : i = x
    · rw [k]; exact hp
    · exact b i h1 (by omega)
theorem St.step_no {P : Int → Int → Prop} {y x f : Int} {R : List Ln} (h : St P y x f R) (hp : ¬ P y x) : St P y (x + 1) (-1) (if 0 ≤ f then R ++ [⟨y, f, x⟩] else R) := by
  have hf := h.f1
  refine ⟨Int.le_refl _, fun _ => ⟨by rw [show x + 1 - 1 = x by omega]; exact hp, ?_⟩, fun h => by omega⟩
  by_cases c : 0 ≤ f
  · rw [if_pos c]
    obtain ⟨a, b, d, e⟩ := h.on c
    exact snoc a e b d hp
  · rw [if_neg c]
    obtain ⟨_, b⟩ := h.no (by omega)
    refine b.congr fun y' x' => ⟨fun ⟨q1, q2⟩ => ⟨q1, by omega⟩, fun ⟨q1, q2⟩ => ⟨q1, ?_⟩⟩
    by_cases k : y' = y ∧ x' = x
    · obtain ⟨rfl, rfl⟩ := k
      exact absurd q1 hp
    · omega
/-- The program's lines of the first sides. -/
structure Mg (T : List Ln) (k : Nat) (R : List Ln) : Prop where
  ne : ∀ r ∈ R, r.a < r.b
  cov : ∀ y x, (∃ r ∈ R, r.y = y ∧ r.a ≤ x ∧ x < r.b) ↔ ∃ t ∈ T.take k, t.y = y ∧ t.a ≤ x ∧ x < t.b
  ord : R.Pairwise fun r t => r.y < t.y ∨ r.y = t.y ∧ r.b < t.a
  last : ∀ t, 0 < k → T[k - 1]? = some t → ∃ R1 l, R = R1 ++ [l] ∧ l.y = t.y ∧ l.b = t.b
  nil : k = 0 → R = []
theorem Mg.start (T : List Ln) : Mg T 0 [] := ⟨fun r hr => by simp at hr, fun y x => by simp, List.Pairwise.nil, fun t h => by omega, fun _ => rfl⟩
theorem take_mem {T : List Ln} {k : Nat} {t u : Ln} (ht : T[k]? = some t) : u ∈ T.take (k + 1) ↔ u ∈ T.take k ∨ u = t := by
  rw [List.take_add_one, ht]; simp
theorem Mg.add {T : List Ln} {k : Nat} {R : List Ln} {t : Ln} (h : Mg T k R) (hne : ∀ t ∈ T, t.a < t.b) (hT : T.Pairwise fun r t => r.y < t.y ∨ r.y = t.y ∧ r.b ≤ t.a) (ht : T[k]? = some t)
    (hno : ∀ R1 l, R = R1 ++ [l] → ¬ (l.y = t.y ∧ l.b = t.a)) : Mg T (k + 1) (R ++ [t]) := by
  have htn := hne t (List.mem_of_getElem? ht)
  refine ⟨fun r hr => ?_, fun y x => ?_, ?_, fun u _ hu => ?_, fun e => by omega⟩
  · rcases List.mem_append.1 hr with hr | hr
    · exact h.ne r hr
    · simp at hr; subst hr; exact htn
  · constructor
    · rintro ⟨r, hr, q⟩
      rcases List.mem_append.1 hr with hr | hr
      · obtain ⟨u, hu, q'⟩ := (h.cov y x).1 ⟨r, hr, q⟩
        exact ⟨u, (take_mem ht).2 (.inl hu), q'⟩
      · simp at hr; subst hr; exact ⟨r, (take_mem ht).2 (.inr rfl), q⟩
    · rintro ⟨u, hu, q⟩
      rcases (take_mem ht).1 hu with hu | rfl
      · obtain ⟨r, hr, q'⟩ := (h.cov y x).2 ⟨u, hu, q⟩
        exact ⟨r, List.mem_append_left _ hr, q'⟩
      · exact ⟨u, by simp, q⟩
  · refine List.pairwise_append.2 ⟨h.ord, List.pairwise_singleton _ _, fun r hr u hu => ?_⟩
    simp at hu
    subst hu
    by_cases k0 : k = 0
    · rw [h.nil k0] at hr; simp at hr
    · have lt := (List.getElem?_eq_some_iff.1 ht).1
      obtain ⟨v, hv⟩ : ∃ v, T[k - 1]? = some v := ⟨_, List.getElem?_eq_getElem (by omega)⟩
      obtain ⟨R1, l, hR, e1, e2⟩ := h.last v (by omega) hv
      have hvt := List.pairwise_iff_getElem.1 hT (k - 1) k (by omega) lt (by omega)
      rw [(List.getElem?_eq_some_iff.1 hv).2, (List.getElem?_eq_some_iff.1 ht).2] at hvt
      have hno' := hno R1 l hR
      have hl : l.y < u.y ∨ l.y = u.y ∧ l.b < u.a := by omega
      have hln := h.ne l (by rw [hR]; simp)
      rw [hR] at hr
      rcases List.mem_append.1 hr with hr1 | hr1
      · have ho := h.ord
        rw [hR] at ho
        have := (List.pairwise_append.1 ho).2.2 r hr1 l (by simp)
        have := h.ne r (by rw [hR]; simp [hr1])
        omega
      · simp at hr1; subst hr1; exact hl
  · rw [show k + 1 - 1 = k by omega, ht] at hu
    obtain rfl := Option.some.inj hu
    exact ⟨R, t, rfl, rfl, rfl⟩
theorem Mg.merge {T : List Ln} {k : Nat} {R1 : List Ln} {l t : Ln} (h : Mg T k (R1 ++ [l])) (hne : ∀ t ∈ T, t.a < t.b) (ht : T[k]? = some t) (h1 : l.y = t.y) (h2 : l.b = t.a) : Mg T (k + 1) (R1 ++ [⟨l.y, l.a, t.b⟩]) := by
  have htn := hne t (List.mem_of_getElem? ht)
  have hln := h.ne l (by simp)
  refine ⟨fun r hr => ?_, fun y x => ?_, ?_, fun u _ hu => ?_, fun e => by omega⟩
  · rcases List.mem_append.1 hr with hr | hr
    · exact h.ne r (by simp [hr])
    · simp at hr; subst hr; show l.a < t.b; omega
  · constructor
    · rintro ⟨r, hr, q⟩
      rcases List.mem_append.1 hr with hr | hr
      · obtain ⟨u, hu, q'⟩ := (h.cov y x).1 ⟨r, by simp [hr], q⟩
        exact ⟨u, (take_mem ht).2 (.inl hu), q'⟩
      · simp at hr
        subst hr
        obtain ⟨q1, q2, q3⟩ := q
        simp only at q1 q2 q3
        by_cases c : x < l.b
        · obtain ⟨u, hu, q'⟩ := (h.cov y x).1 ⟨l, by simp, q1, q2, c⟩
          exact ⟨u, (take_mem ht).2 (.inl hu), q'⟩
        · exact ⟨t, (take_mem ht).2 (.inr rfl), by omega, by omega, q3⟩
    · rintro ⟨u, hu, q⟩
      rcases (take_mem ht).1 hu with hu | rfl
      · obtain ⟨r, hr, q'⟩ := (h.cov y x).2 ⟨u, hu, q⟩
        rcases List.mem_append.1 hr with hr | hr
        · exact ⟨r, by simp [hr], q'⟩
        · simp at hr
          subst hr
          exact ⟨_, List.mem_append_right _ (List.mem_singleton.2 rfl), q'.1, q'.2.1, by show x < t.b; omega⟩
      · exact ⟨_, List.mem_append_right _ (List.mem_singleton.2 rfl), by show l.y = y; omega, by show l.a ≤ x; omega, q.2.2⟩
  · have ho := List.pairwise_append.1 h.ord
    refine List.pairwise_append.2 ⟨ho.1, List.pairwise_singleton _ _, fun r hr u hu => ?_⟩
    simp at hu
    subst hu
    exact ho.2.2 r hr l (by simp)
  · rw [show k + 1 - 1 = k by omega, ht] at hu
    obtain rfl := Option.some.inj hu
    exact ⟨R1, _, rfl, h1, rfl⟩
theorem Mg.done {T : List Ln} {R : List Ln} {P : Int → Int → Prop} (h : Mg T T.length R) (hP : ∀ y x, P y x ↔ ∃ t ∈ T, t.y = y ∧ t.a ≤ x ∧ x < t.b) : IsLines P R :=
  ⟨h.ne, fun y x => by rw [h.cov, List.take_length]; exact hP y x, h.ord⟩
/-- A side is at this place. -/
def Side (L : List Sq) (y x : Int) : Prop := ∃ s ∈ L, (s.y = y ∨ s.y + s.d = y) ∧ s.x ≤ x ∧ x < s.x + s.d
def sideLn (s : Sq) : Ln := ⟨s.y + s.d, s.x, s.x + s.d⟩
def sidesOf (W : Int) (L : List Sq) : List Ln := ⟨0, 0, W⟩ :: L.map sideLn
theorem side_iff {L : List Sq} {W H : Nat} (hC : Cut L W H) (hH : 0 < H) (y x : Int) : Side L y x ↔ ∃ t ∈ sidesOf W L, t.y = y ∧ t.a ≤ x ∧ x < t.b := by
  constructor
  · rintro ⟨s, hs, hy, h1, h2⟩
    have ws := hC.within s hs
    unfold Inn at ws
    rcases hy with hy | hy
    · by_cases y0 : y = 0
      · exact ⟨_, List.mem_cons_self, y0.symm, by show 0 ≤ x; omega, by show x < (W : Int); omega⟩
      · obtain ⟨t, ht, ha⟩ := covered hC.within hC.apart hC.area x.toNat (y - 1).toNat (by omega) (by omega)
        unfold At at ha
        have : t.y + t.d = y := by
          apply Int.le_antisymm _ (by omega)
          apply Int.le_of_not_gt
          intro hlt
          have := same hC.apart hs ht (by unfold Over; omega)
          subst this
          omega
        exact ⟨sideLn t, List.mem_cons_of_mem _ (List.mem_map.2 ⟨t, ht, rfl⟩), this, by show t.x ≤ x; omega, by show x < t.x + t.d; omega⟩
    · exact ⟨sideLn s, List.mem_cons_of_mem _ (List.mem_map.2 ⟨s, hs, rfl⟩), hy, h1, h2⟩
  · rintro ⟨t, ht, hy, h1, h2⟩
    rcases List.mem_cons.1 ht with rfl | ht
    · simp only at hy h1 h2
      obtain ⟨s, hs, ha⟩ := covered hC.within hC.apart hC.area x.toNat 0 (by omega) hH
      have ws := hC.within s hs
      unfold Inn at ws
      unfold At at ha
      exact ⟨s, hs, .inl (by omega), by omega, by omega⟩
    · obtain ⟨s, hs, rfl⟩ := List.mem_map.1 ht
      exact ⟨s, hs, .inr hy, h1, h2⟩
theorem sides_ne {L : List Sq} {W H : Nat} (hC : Cut L W H) (hW : 1 ≤ W) : ∀ t ∈ sidesOf W L, t.a < t.b := by
  intro t ht
  rcases List.mem_cons.1 ht with rfl | ht
  · show (0 : Int) < W; omega
  · obtain ⟨s, hs, rfl⟩ := List.mem_map.1 ht
    have ws := hC.within s hs
    unfold Inn at ws
    show s.x < s.x + s.d
    omega
def Dj (r t : Ln) : Prop := r.y ≠ t.y ∨ r.b ≤ t.a ∨ t.b ≤ r.a
theorem sides_dj {L : List Sq} {W H : Nat} (hC : Cut L W H) : (sidesOf W L).Pairwise Dj := by
  refine List.pairwise_cons.2 ⟨fun t ht => ?_, ?_⟩
  · obtain ⟨s, hs, rfl⟩ := List.mem_map.1 ht
    have ws := hC.within s hs
    unfold Inn at ws
    left
    show (0 : Int) ≠ s.y + s.d
    omega
  · refine List.pairwise_map.2 (List.Pairwise.imp_of_mem (fun {s t} hs ht hn => ?_) hC.apart)
    have ws := hC.within s hs
    have wt := hC.within t ht
    unfold Inn at ws wt
    unfold NoLap Over at hn
    show s.y + s.d ≠ t.y + t.d ∨ s.x + s.d ≤ t.x ∨ t.x + t.d ≤ s.x
    omega
theorem sides_sorted {L : List Sq} {W H : Nat} (hC : Cut L W H) (hW : 1 ≤ W) {T : List Ln} (hp : T.Perm (sidesOf W L)) (hs : T.Pairwise fun r t => r.y < t.y ∨ r.y = t.y ∧ r.a ≤ t.a) : T.Pairwise fun r t => r.y < t.y ∨ r.y = t.y ∧ r.b ≤ t.a := by
  have hd : T.Pairwise Dj := (List.Perm.pairwise_iff (fun {a b} h => by unfold Dj at *; omega) hp).2 (sides_dj hC)
  have hn : ∀ t ∈ T, t.a < t.b := fun t ht => sides_ne hC hW t (hp.mem_iff.1 ht)
  refine List.Pairwise.imp_of_mem (fun {r t} hr ht hq => ?_) (hs.and hd)
  have := hn r hr
  have := hn t ht
  obtain ⟨q1, q2⟩ := hq
  unfold Dj at q2
  omega
end M
end Go.Proofs.Ytnnhgblgbbfmpaa
