/- The cuts that are filled from above, as lists: no program in sight. -/
import Derived.Test.YtebnekicbcdnaaaFillG
set_option linter.all false
namespace Go.Proofs.Ytebnekicbcdnaaa
open Go.RowKit
/-- So many columns, none higher than H. -/
structure Fl (W : Nat) (H : Int) (f : List Int) : Prop where
  len : f.length = W
  lo : ∀ (i : Nat) u, f[i]? = some u → 0 ≤ u
  hi : ∀ (i : Nat) u, f[i]? = some u → u ≤ H
theorem Fl.start (W : Nat) {H : Int} (h : 0 ≤ H) : Fl W H (List.replicate W 0) := by
  refine ⟨by simp, fun i u hu => ?_, fun i u hu => ?_⟩ <;>
  · rw [List.getElem?_replicate] at hu; split at hu <;> cases hu; omega
/-- r is the room at column x, of height y. -/
structure RM (f : List Int) (H : Int) (x : Nat) (y : Int) (r : Nat) : Prop where
  w : x + r ≤ f.length
  h : y + r ≤ H
  l : Lvl f x r y
  n : ¬ (x + r < f.length ∧ y + r < H ∧ f[x + r]? = some y)
theorem RM.uniq {f : List Int} {H y : Int} {x r r' : Nat} (a : RM f H x y r) (b : RM f H x y r') : r = r' := by
  rcases Nat.lt_trichotomy r r' with h | h | h
  · exact absurd ⟨by have := b.w; omega, by have := b.h; omega, b.l (x + r) (by omega) (by omega)⟩ a.n
  · exact h
  · exact absurd ⟨by have := a.w; omega, by have := a.h; omega, a.l (x + r') (by omega) (by omega)⟩ b.n
theorem RM.ex {f : List Int} {H y : Int} {x : Nat} (hx : x ≤ f.length) (hy : y ≤ H) : ∃ r, RM f H x y r := by
  have key : ∀ (k r : Nat), f.length - x - r ≤ k → x + r ≤ f.length → y + r ≤ H → Lvl f x r y → ∃ r, RM f H x y r := by
    intro k
    induction k with
    | zero => intro r h1 h2 h3 h4; exact ⟨r, h2, h3, h4, fun hh => by omega⟩
    | succ k ih =>
      intro r h1 h2 h3 h4
      by_cases hn : x + r < f.length ∧ y + r < H ∧ f[x + r]? = some y
      · refine ih (r + 1) (by omega) (by omega) (by omega) fun i hi hj => ?_
        by_cases e : i = x + r
        · rw [e]; exact hn.2.2
        · exact h4 i hi (by omega)
      · exact ⟨r, h2, h3, h4, hn⟩
  exact key _ 0 (Nat.le_refl _) (by omega) (by omega) fun i h1 h2 => by omega
noncomputable def roomN (f : List Int) (H : Int) : Nat := Classical.epsilon fun r => RM f H (fm f).1 (fm f).2 r
theorem room_of {f : List Int} {H y : Int} {x r : Nat} (hm : FM f x y) (h : RM f H x y r) : roomN f H = r := by
  have e := fm_of hm
  have := Classical.epsilon_spec (p := fun r => RM f H (fm f).1 (fm f).2 r) ⟨r, by rw [e]; exact h⟩
  simp only [e] at this
  unfold roomN
  simp only [e]
  exact this.uniq h
theorem Fl.rm {W : Nat} {H : Int} {f : List Int} (h : Fl W H f) (hW : 1 ≤ W) : ∃ x y r, FM f x y ∧ RM f H x y r := by
  obtain ⟨x, y, hm⟩ := fm_ex (f := f) (by have := h.len; omega)
  have hx := (List.getElem?_eq_some_iff.1 hm.1).1
  obtain ⟨r, hr⟩ := RM.ex (f := f) (x := x) (y := y) (H := H) (by omega) (h.hi x y hm.1)
  exact ⟨x, y, r, hm, hr⟩
/-- How many cells are free. -/
def free (W : Nat) (H : Int) (f : List Int) : Nat := (W * H - f.sum).toNat
theorem Fl.sum {W : Nat} {H : Int} {f : List Int} (h : Fl W H f) : 0 ≤ f.sum ∧ f.sum ≤ W * H ∧ (f.sum = W * H → ∀ (i : Nat) u, f[i]? = some u → u = H) := by
  have h1 := sumF_le f H fun u hu => by obtain ⟨i, hi, e⟩ := List.mem_iff_getElem.1 hu; exact h.hi i u (by rw [List.getElem?_eq_getElem hi, e])
  rw [h.len] at h1
  refine ⟨?_, h1.1, fun e i u hu => h1.2 e u (List.mem_of_getElem? hu)⟩
  have h2 : ∀ g : List Int, (∀ u ∈ g, 0 ≤ u) → 0 ≤ g.sum := by
    intro g
    induction g with
    | nil => intro _; simp
    | cons a r ih => intro hg; have := ih fun u hu => hg u (List.mem_cons_of_mem _ hu); have := hg a List.mem_cons_self; simp; omega
  exact h2 f fun u hu => by obtain ⟨i, hi, e⟩ := List.mem_iff_getElem.1 hu; exact h.lo i u (by rw [List.getElem?_eq_getElem hi, e])
theorem Fl.zero {W : Nat} {H : Int} {f : List Int} (h : Fl W H f) (hf : free W H f = 0) {x r : Nat} {y : Int} (hm : FM f x y) (hr : RM f H x y r) : r = 0 := by
  have h1 := h.sum
  have h2 := h1.2.2 (by unfold free at hf; omega) x y hm.1
  have := hr.h
  omega
theorem Fl.done {W : Nat} {H : Int} {f : List Int} (h : Fl W H f) {x : Nat} {y : Int} (hm : FM f x y) (hr : RM f H x y 0) : f.sum = W * H := by
  have hx := (List.getElem?_eq_some_iff.1 hm.1).1
  have hy : y = H := by
    have := hr.n
    have := h.hi x y hm.1
    by_cases e : y < H
    · exact absurd ⟨by omega, by omega, by simpa using hm.1⟩ hr.n
    · omega
  have : ∀ g : List Int, (∀ u ∈ g, u = H) → g.sum = g.length * H := by
    intro g
    induction g with
    | nil => intro _; simp
    | cons a r ih =>
      intro hg
      have h1 := ih fun u hu => hg u (List.mem_cons_of_mem _ hu)
      have h2 := hg a List.mem_cons_self
      have e : ((r.length + 1 : Nat) : Int) * H = r.length * H + H := by rw [Int.natCast_succ, Int.add_mul, Int.one_mul]
      simp only [List.sum_cons, List.length_cons, e]
      omega
  rw [this f fun u hu => ?_, h.len]
  obtain ⟨i, hi, e⟩ := List.mem_iff_getElem.1 hu
  have e' : f[i]? = some u := by rw [List.getElem?_eq_getElem hi, e]
  have := hm.2.1 i u e'
  have := h.hi i u e'
  omega
theorem Fl.next {W : Nat} {H : Int} {f : List Int} (h : Fl W H f) {x r s : Nat} {y : Int} (hm : FM f x y) (hr : RM f H x y r) (hs : s ≤ r) : Fl W H (liftF f x s s) ∧ (liftF f x s s).sum = f.sum + s * s := by
  refine ⟨⟨by rw [liftF_len]; exact h.len, fun i u hu => ?_, fun i u hu => ?_⟩, sumF_lift _ _ _ _ (by have := hr.w; omega)⟩
  · rw [liftF_get] at hu
    cases hi : f[i]? with
    | none => rw [hi] at hu; cases hu
    | some v =>
      rw [hi] at hu
      simp only [Option.map_some, Option.some.injEq] at hu
      have := h.lo i v hi
      split at hu <;> omega
  · rw [liftF_get] at hu
    cases hi : f[i]? with
    | none => rw [hi] at hu; cases hu
    | some v =>
      rw [hi] at hu
      simp only [Option.map_some, Option.some.injEq] at hu
      have := h.hi i v hi
      split at hu
      · rename_i hc
        have := hr.l i hc.1 (by omega)
        rw [hi] at this; cases this
        have := hr.h
        omega
      · omega
theorem free_next {W : Nat} {H : Int} {f : List Int} (h : Fl W H f) {x r s : Nat} {y : Int} (hm : FM f x y) (hr : RM f H x y r) (hs : s ≤ r) : free W H (liftF f x s s) + s * s = free W H f := by
  obtain ⟨h1, h2⟩ := h.next hm hr hs
  have h3 := h1.sum
  have h4 := h.sum
  unfold free
  have e : ((s * s : Nat) : Int) = (s : Int) * s := by simp
  omega
/-- The ways to go on above the columns f up to the height H, with no side greater than m; k: how many squares may come at most. -/
noncomputable def fills (m : Nat) (H : Int) : Nat → List Int → List (List Sq)
  | 0, _ => [[]]
  | k + 1, f => if roomN f H = 0 then [[]] else (List.range (min (roomN f H) m)).flatMap fun i => (fills m H k (liftF f (fm f).1 (i + 1) ((i + 1 : Nat) : Int))).map fun L => ⟨((fm f).1 : Nat), (fm f).2, ((i + 1 : Nat) : Int)⟩ :: L
theorem fills_leaf {m k x : Nat} {H y : Int} {f : List Int} (hm : FM f x y) (hr : RM f H x y 0) : fills m H k f = [[]] := by
  cases k with
  | zero => rfl
  | succ k => rw [fills, room_of hm hr, if_pos rfl]
def stepF (m : Nat) (H : Int) (k : Nat) (f : List Int) (x : Nat) (y : Int) (g : Nat → List Int → List (List Sq)) (i : Nat) : List (List Sq) := (g k (liftF f x (i + 1) ((i + 1 : Nat) : Int))).map fun L => ⟨(x : Nat), y, ((i + 1 : Nat) : Int)⟩ :: L
theorem fills_node {m k x r : Nat} {H y : Int} {f : List Int} (hm : FM f x y) (hr : RM f H x y r) (h0 : r ≠ 0) : fills m H (k + 1) f = (List.range (min r m)).flatMap (stepF m H k f x y (fills m H)) := by
  rw [fills, room_of hm hr, if_neg h0, fm_of hm]
  rfl
theorem flatMap_range_succ {α : Type} (n : Nat) (g : Nat → List α) : (List.range (n + 1)).flatMap g = (List.range n).flatMap g ++ g n := by simp [List.range_succ]
theorem fills_len {m k W : Nat} {H : Int} (hW : 1 ≤ W) : ∀ {f : List Int}, Fl W H f → ∀ L ∈ fills m H k f, L.length ≤ free W H f ∧ (0 < free W H f → 0 < k → 0 < L.length) ∧ ∀ s ∈ L, 1 ≤ s.d ∧ s.d ≤ m := by
  induction k with
  | zero => intro f h L hL; simp [fills] at hL; subst hL; simp
  | succ k ih =>
    intro f h L hL
    obtain ⟨x, y, r, hm, hr⟩ := h.rm hW
    by_cases h0 : r = 0
    · subst h0
      rw [fills_leaf hm hr] at hL
      simp at hL; subst hL
      have := h.done hm hr
      simp [free, this]
    · rw [fills_node hm hr h0] at hL
      obtain ⟨i, hi, hL⟩ := List.mem_flatMap.1 hL
      rw [List.mem_range] at hi
      obtain ⟨M, hM, rfl⟩ := List.mem_map.1 hL
      have h1 := ih (h.next hm hr (s := i + 1) (by omega)).1 M hM
      have h2 := free_next h hm hr (s := i + 1) (by omega)
      have h3 : 1 ≤ (i + 1) * (i + 1) := Nat.mul_pos (by omega) (by omega)
      refine ⟨by simp only [List.length_cons]; omega, fun _ _ => by simp, fun s hs => ?_⟩
      rcases List.mem_cons.1 hs with rfl | hs
      · constructor <;> dsimp only <;> omega
      · exact h1.2.2 s hs
theorem pow_half (F : Nat) : ∀ r, r ≤ F → ((List.range r).map fun i => 2 ^ (F - (i + 1))).sum + 2 ^ (F - r) = 2 ^ F := by
  intro r
  induction r with
  | zero => intro _; simp
  | succ r ih =>
    intro h
    have := ih (by omega)
    rw [List.range_succ, List.map_append, List.sum_append]
    have e : 2 ^ (F - r) = 2 ^ (F - (r + 1)) + 2 ^ (F - (r + 1)) := by
      have : F - r = (F - (r + 1)) + 1 := by omega
      rw [this, Nat.pow_succ]; omega
    simp
    omega
theorem fills_few {m k W : Nat} {H : Int} (hW : 1 ≤ W) : ∀ {f : List Int}, Fl W H f → (fills m H k f).length ≤ 2 ^ free W H f := by
  induction k with
  | zero => intro f h; simp [fills, Nat.one_le_two_pow]
  | succ k ih =>
    intro f h
    obtain ⟨x, y, r, hm, hr⟩ := h.rm hW
    by_cases h0 : r = 0
    · subst h0
      rw [fills_leaf hm hr]
      simp [Nat.one_le_two_pow]
    · rw [fills_node hm hr h0]
      have hrf : r ≤ free W H f := by
        have h2 := free_next h hm hr (s := r) (by omega)
        have : r * 1 ≤ r * r := Nat.mul_le_mul_left r (by omega)
        omega
      have key : ∀ n, n ≤ r → ((List.range n).flatMap (stepF m H k f x y (fills m H))).length ≤ ((List.range n).map fun i => 2 ^ (free W H f - (i + 1))).sum := by
        intro n
        induction n with
        | zero => intro _; simp
        | succ n ihn =>
          intro hn
          have h1 := ihn (by omega)
          rw [flatMap_range_succ, List.length_append, List.range_succ, List.map_append, List.sum_append]
          have h2 := free_next h hm hr (s := n + 1) (by omega)
          have h3 := ih (h.next hm hr (s := n + 1) (by omega)).1
          have h4 : (n + 1) * 1 ≤ (n + 1) * (n + 1) := Nat.mul_le_mul_left _ (by omega)
          have h5 : 2 ^ free W H (liftF f x (n + 1) ((n + 1 : Nat) : Int)) ≤ 2 ^ (free W H f - (n + 1)) := Nat.pow_le_pow_right (by omega) (by omega)
          have e : (stepF m H k f x y (fills m H) n).length = (fills m H k (liftF f x (n + 1) ((n + 1 : Nat) : Int))).length := by simp [stepF]
          simp only [List.map_cons, List.map_nil, List.sum_cons, List.sum_nil]
          rw [e]
          omega
      have h1 := key (min r m) (by omega)
      have h2 := pow_half (free W H f) (min r m) (by omega)
      have h3 : 0 < 2 ^ (free W H f - min r m) := Nat.pow_pos (by omega)
      omega
theorem fills_some {m k W : Nat} {H : Int} (hW : 1 ≤ W) (hm1 : 1 ≤ m) : ∀ {f : List Int}, Fl W H f → fills m H k f ≠ [] := by
  induction k with
  | zero => intro f h; simp [fills]
  | succ k ih =>
    intro f h
    obtain ⟨x, y, r, hm, hr⟩ := h.rm hW
    by_cases h0 : r = 0
    · subst h0; rw [fills_leaf hm hr]; simp
    · rw [fills_node hm hr h0]
      intro e
      rw [List.flatMap_eq_nil_iff] at e
      have := e 0 (by rw [List.mem_range]; omega)
      simp only [stepF, List.map_eq_nil_iff] at this
      exact ih (h.next hm hr (s := 1) (by omega)).1 this
/-- The cuts whose sides are at most m are those that are filled with none greater. -/
theorem fills_most {m M k W : Nat} {H : Int} (hW : 1 ≤ W) (hmM : m ≤ M) (hm1 : 1 ≤ m) : ∀ {f : List Int}, Fl W H f → (fills M H k f).filter (fun L => L.all fun s => decide (s.d ≤ m)) = fills m H k f := by
  induction k with
  | zero => intro f h; simp [fills]
  | succ k ih =>
    intro f h
    obtain ⟨x, y, r, hm, hr⟩ := h.rm hW
    by_cases h0 : r = 0
    · subst h0; rw [fills_leaf hm hr, fills_leaf hm hr]; simp
    · rw [fills_node hm hr h0, fills_node hm hr h0]
      have key : ∀ n, n ≤ r → n ≤ M → ((List.range n).flatMap (stepF M H k f x y (fills M H))).filter (fun L => L.all fun s => decide (s.d ≤ m)) = (List.range (min n m)).flatMap (stepF m H k f x y (fills m H)) := by
        intro n
        induction n with
        | zero => intro _ _; simp
        | succ n ihn =>
          intro hn hM
          rw [flatMap_range_succ, List.filter_append, ihn (by omega) (by omega)]
          by_cases hc : n + 1 ≤ m
          · have e1 : min (n + 1) m = n + 1 := by omega
            have e2 : min n m = n := by omega
            rw [e1, e2, flatMap_range_succ, stepF, List.filter_map, stepF]
            have e3 : (((fun L : List Sq => L.all fun s => decide (s.d ≤ m)) ∘ fun L => (⟨(x : Nat), y, ((n + 1 : Nat) : Int)⟩ : Sq) :: L)) = fun L : List Sq => L.all fun s => decide (s.d ≤ m) := by
              funext L
              have : ((n : Int) + 1 ≤ (m : Int)) := by omega
              simp [this]
            rw [e3, ih (h.next hm hr (s := n + 1) (by omega)).1]
          · have e1 : min (n + 1) m = m := by omega
            have e2 : min n m = m := by omega
            have e3 : (stepF M H k f x y (fills M H) n).filter (fun L => L.all fun s => decide (s.d ≤ m)) = [] := by
              rw [List.filter_eq_nil_iff]
              intro L hL
              obtain ⟨L', hL', rfl⟩ := List.mem_map.1 hL
              have : ¬ ((n : Int) + 1 ≤ (m : Int)) := by omega
              simp [this]
            rw [e1, e2, e3, List.append_nil]
      have e := key (min r M) (by omega) (by omega)
      rw [e]
      congr 2
      omega
theorem w_add (a b : Int) : wrap64 (wrap64 a + b) = wrap64 (a + b) := by unfold wrap64; omega
theorem w_add2 (a b : Int) : wrap64 (a + wrap64 b) = wrap64 (a + b) := by unfold wrap64; omega
theorem w_in {a : Int} (h : 0 ≤ a) (h' : a ≤ 4611686018427387904) : wrap64 a = a := by unfold wrap64; omega
theorem w_idem (a : Int) : wrap64 (wrap64 a) = wrap64 a := by unfold wrap64; omega
theorem w_mod {a b : Int} (h : ∃ t, a = b + 18446744073709551616 * t) : wrap64 a = wrap64 b := by obtain ⟨t, h⟩ := h; unfold wrap64; omega
theorem w_ex (a : Int) : ∃ t, wrap64 a = a + 18446744073709551616 * t := ⟨-((a + 9223372036854775808) / 18446744073709551616), by unfold wrap64; omega⟩
def bump (B : List Int) (j : Nat) : List Int := B.set j (wrap64 (B.getD j 0 + 1))
theorem bump_len (B : List Int) (j : Nat) : (bump B j).length = B.length := by simp [bump]
def tally (c : Nat) (B : List Int) (Ls : List (List Sq)) : List Int := Ls.foldl (fun B L => bump B (c + L.length - 1)) B
theorem tally_len (c : Nat) (Ls : List (List Sq)) : ∀ B, (tally c B Ls).length = B.length := by
  induction Ls with
  | nil => intro B; rfl
  | cons L r ih => intro B; show (tally c _ r).length = _; rw [ih, bump_len]
theorem tally_app (c : Nat) (B : List Int) (Ls Ms : List (List Sq)) : tally c B (Ls ++ Ms) = tally c (tally c B Ls) Ms := by simp [tally]
theorem tally_map (c : Nat) (q : Sq) (Ls : List (List Sq)) : ∀ B, tally c B (Ls.map fun L => q :: L) = tally (c + 1) B Ls := by
  induction Ls with
  | nil => intro B; rfl
  | cons L r ih =>
    intro B
    show tally c (bump B (c + (q :: L).length - 1)) (r.map fun L => q :: L) = tally (c + 1) (bump B (c + 1 + L.length - 1)) r
    rw [ih]
    have : c + (q :: L).length - 1 = c + 1 + L.length - 1 := by rw [List.length_cons]; omega
    rw [this]
theorem sum_set (B : List Int) (j : Nat) (v : Int) (h : j < B.length) : (B.set j v).sum = B.sum - B.getD j 0 + v := by
  induction B generalizing j with
  | nil => simp at h
  | cons a r ih =>
    cases j with
    | zero => simp; omega
    | succ j => simp at h; simp [ih j h]; omega
/-- The sum as the machine takes it. -/
def wsumF (B : List Int) : Int := B.foldl (fun s v => wrap64 (s + v)) 0
theorem wsumF_acc (B : List Int) : ∀ a, B.foldl (fun s v => wrap64 (s + v)) (wrap64 a) = wrap64 (a + B.sum) := by
  induction B with
  | nil => intro a; simp
  | cons b r ih => intro a; simp only [List.foldl_cons, List.sum_cons]; rw [w_add, ih]; congr 1; omega
theorem wsumF_eq (B : List Int) : wsumF B = wrap64 B.sum := by
  have := wsumF_acc B 0
  have e : wrap64 0 = 0 := by unfold wrap64; omega
  rw [e] at this
  unfold wsumF; rw [this]; congr 1; omega
theorem bump_sum (B : List Int) (j : Nat) (h : j < B.length) : ∃ t, (bump B j).sum = B.sum + 1 + 18446744073709551616 * t := by
  obtain ⟨t, ht⟩ := w_ex (B.getD j 0 + 1)
  exact ⟨t, by unfold bump; rw [sum_set _ _ _ h, ht]; omega⟩
theorem tally_sum (c : Nat) (Ls : List (List Sq)) : ∀ B, (∀ L ∈ Ls, c + L.length - 1 < B.length) → ∃ t, (tally c B Ls).sum = B.sum + Ls.length + 18446744073709551616 * t := by
  induction Ls with
  | nil => intro B _; exact ⟨0, by simp [tally]⟩
  | cons L r ih =>
    intro B h
    obtain ⟨t, ht⟩ := bump_sum B (c + L.length - 1) (h L List.mem_cons_self)
    obtain ⟨u, hu⟩ := ih (bump B (c + L.length - 1)) fun M hM => by rw [bump_len]; exact h M (List.mem_cons_of_mem _ hM)
    refine ⟨t + u, ?_⟩
    show (tally c (bump B (c + L.length - 1)) r).sum = _
    rw [hu, ht]; simp only [List.length_cons]; omega
theorem tally_wsum (c N : Nat) (Ls : List (List Sq)) (h : ∀ L ∈ Ls, c + L.length - 1 < N) : wsumF (tally c (List.replicate N 0) Ls) = wrap64 Ls.length := by
  obtain ⟨t, ht⟩ := tally_sum c Ls (List.replicate N 0) fun L hL => by simpa using h L hL
  rw [wsumF_eq]
  refine w_mod ⟨t, ?_⟩
  have e : (List.replicate N (0 : Int)).sum = 0 := by induction N with | zero => rfl | succ n ih => simp [List.replicate_succ]
  rw [ht, e]; omega
/-- The sum of the numbers, each times its place, as the machine takes it. -/
def wmean : List Int → Nat → Int → Int
  | [], _, a => a
  | n :: r, i, a => wmean r (i + 1) (wrap64 (a + wrap64 (((i : Int) + 1) * n)))
def pmean : List Int → Nat → Int
  | [], _ => 0
  | n :: r, i => ((i : Int) + 1) * n + pmean r (i + 1)
theorem wmean_eq (B : List Int) : ∀ i a, wmean B i (wrap64 a) = wrap64 (a + pmean B i) := by
  induction B with
  | nil => intro i a; simp [wmean, pmean]
  | cons n r ih =>
    intro i a
    simp only [wmean, pmean]
    rw [w_add, w_add2, ih]; congr 1; omega
theorem pmean_set (B : List Int) (v : Int) : ∀ i j, j < B.length → pmean (B.set j v) i = pmean B i + ((i : Int) + j + 1) * (v - B.getD j 0) := by
  induction B with
  | nil => intro i j h; simp at h
  | cons a r ih =>
    intro i j h
    cases j with
    | zero => simp [pmean, Int.mul_sub] <;> omega
    | succ j =>
      simp at h
      simp only [List.set_cons_succ, pmean, ih (i + 1) j h, List.getD_cons_succ]
      have e : ((i + 1 : Nat) : Int) + (j : Int) + 1 = (i : Int) + ((j + 1 : Nat) : Int) + 1 := by omega
      rw [e]; omega
theorem tally_pmean (Ls : List (List Sq)) : ∀ B, (∀ L ∈ Ls, 0 < L.length ∧ L.length - 1 < B.length) → ∃ t, pmean (tally 0 B Ls) 0 = pmean B 0 + ((Ls.map List.length).sum : Nat) + 18446744073709551616 * t := by
  induction Ls with
  | nil => intro B _; exact ⟨0, by simp [tally]⟩
  | cons L r ih =>
    intro B h
    obtain ⟨h1, h2⟩ := h L List.mem_cons_self
    obtain ⟨u, hu⟩ := ih (bump B (0 + L.length - 1)) fun M hM => by rw [bump_len]; exact h M (List.mem_cons_of_mem _ hM)
    obtain ⟨t, ht⟩ := w_ex (B.getD (0 + L.length - 1) 0 + 1)
    have e : ((0 : Nat) : Int) + ((0 + L.length - 1 : Nat) : Int) + 1 = L.length := by omega
    have e2 : pmean (bump B (0 + L.length - 1)) 0 = pmean B 0 + L.length * (1 + 18446744073709551616 * t) := by
      unfold bump
      rw [pmean_set _ _ _ _ (by omega), e, ht]
      congr 2; omega
    refine ⟨L.length * t + u, ?_⟩
    show pmean (tally 0 (bump B (0 + L.length - 1)) r) 0 = _
    rw [hu, e2]
    simp only [List.map_cons, List.sum_cons]
    have e3 : (L.length : Int) * (1 + 18446744073709551616 * t) = L.length + 18446744073709551616 * (L.length * t) := by rw [Int.mul_add, Int.mul_one, ← Int.mul_assoc, ← Int.mul_assoc, Int.mul_comm (L.length : Int) 18446744073709551616]
    rw [e3]; omega
theorem tally_wmean (N : Nat) (Ls : List (List Sq)) (h : ∀ L ∈ Ls, 0 < L.length ∧ L.length - 1 < N) : wmean (tally 0 (List.replicate N 0) Ls) 0 0 = wrap64 ((Ls.map List.length).sum : Nat) := by
  obtain ⟨t, ht⟩ := tally_pmean Ls (List.replicate N 0) fun L hL => by simpa using h L hL
  have e0 : wrap64 0 = 0 := by unfold wrap64; omega
  have := wmean_eq (tally 0 (List.replicate N 0) Ls) 0 0
  rw [e0] at this
  rw [this]
  refine w_mod ⟨t, ?_⟩
  have e : ∀ (n i : Nat), pmean (List.replicate n (0 : Int)) i = 0 := by intro n; induction n with | zero => intro i; rfl | succ n ih => intro i; simp [List.replicate_succ, pmean, ih]
  rw [ht, e N 0]; omega
/-- Sums of what is told of each. -/
def wtell (g : List Sq → Int) (Ls : List (List Sq)) : Int := Ls.foldl (fun s L => wrap64 (s + g L)) 0
theorem wtell_snoc (g : List Sq → Int) (Ls : List (List Sq)) (L : List Sq) : wtell g (Ls ++ [L]) = wrap64 (wtell g Ls + g L) := by simp [wtell]
theorem wtell_acc (g : List Sq → Int) (Ls : List (List Sq)) : ∀ a, Ls.foldl (fun s L => wrap64 (s + g L)) (wrap64 a) = wrap64 (a + (Ls.map g).sum) := by
  induction Ls with
  | nil => intro a; simp
  | cons b r ih => intro a; simp only [List.foldl_cons, List.map_cons, List.sum_cons]; rw [w_add, ih]; congr 1; omega
theorem wtell_eq (g : List Sq → Int) (Ls : List (List Sq)) : wtell g Ls = wrap64 (Ls.map g).sum := by
  have := wtell_acc g Ls 0
  have e : wrap64 0 = 0 := by unfold wrap64; omega
  rw [e] at this
  unfold wtell; rw [this]; congr 1; omega
theorem wtell_len (Ls : List (List Sq)) : wtell (fun L => (L.length : Int)) Ls = wrap64 ((Ls.map List.length).sum : Nat) := by
  rw [wtell_eq]
  congr 1
  induction Ls with
  | nil => rfl
  | cons L r ih => simp only [List.map_cons, List.sum_cons]; omega
theorem wtell_is (p : List Sq → Bool) (Ls : List (List Sq)) : wtell (fun L => if p L then 1 else 0) Ls = wrap64 (Ls.filter p).length := by
  rw [wtell_eq]
  congr 1
  induction Ls with
  | nil => rfl
  | cons L r ih =>
    simp only [List.map_cons, List.sum_cons, List.filter_cons]
    split <;> simp <;> omega
end Go.Proofs.Ytebnekicbcdnaaa
