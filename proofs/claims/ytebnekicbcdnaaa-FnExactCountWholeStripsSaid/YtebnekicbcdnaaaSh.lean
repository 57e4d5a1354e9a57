/- The states of a strip that is filled: plain. -/
import Derived.Test.YtebnekicbcdnaaaSg
set_option linter.all false
namespace Go.Proofs.Ytebnekicbcdnaaa
open Go.RowKit

/-- How many columns are full ahead in a row. -/
def dg (s r : Nat) : Nat := s / 4 ^ r % 4
theorem dg_lt (s r : Nat) : dg s r < 4 := Nat.mod_lt _ (by decide)
theorem dg_nil (r : Nat) : dg 0 r = 0 := by simp [dg]
theorem dg_put {s d k r : Nat} (hd : d ≤ 3) (hk : k < 4) (hr : r < 4) (h0 : dg s k = 0) : dg (s + d * 4 ^ k) r = if r = k then d else dg s r := by
  have hk' : k = 0 ∨ k = 1 ∨ k = 2 ∨ k = 3 := by omega
  have hr' : r = 0 ∨ r = 1 ∨ r = 2 ∨ r = 3 := by omega
  rcases hk' with rfl | rfl | rfl | rfl <;> rcases hr' with rfl | rfl | rfl | rfl <;> simp [dg] at h0 ⊢ <;> omega
theorem put_lt {s d k h : Nat} (hd : d ≤ 3) (hk : k < h) (hh : h ≤ 4) (hs : s < 4 ^ h) (h0 : dg s k = 0) : s + d * 4 ^ k < 4 ^ h := by
  have hh' : h = 1 ∨ h = 2 ∨ h = 3 ∨ h = 4 := by omega
  have hk' : k = 0 ∨ k = 1 ∨ k = 2 ∨ k = 3 := by omega
  rcases hh' with rfl | rfl | rfl | rfl <;> rcases hk' with rfl | rfl | rfl | rfl <;> simp [dg] at h0 hs hk ⊢ <;> omega
theorem dg_sub {s k r : Nat} (hk : k < 4) (hr : r < 4) (h0 : 1 ≤ dg s k) : 4 ^ k ≤ s ∧ dg (s - 4 ^ k) r = if r = k then dg s r - 1 else dg s r := by
  have hk' : k = 0 ∨ k = 1 ∨ k = 2 ∨ k = 3 := by omega
  have hr' : r = 0 ∨ r = 1 ∨ r = 2 ∨ r = 3 := by omega
  rcases hk' with rfl | rfl | rfl | rfl <;> rcases hr' with rfl | rfl | rfl | rfl <;> simp [dg] at h0 ⊢ <;> omega
/-- The state with n rows of a square put. -/
def putN (s row d : Nat) : Nat → Nat
  | 0 => s
  | n + 1 => putN s row d n + d * 4 ^ (row + n)
theorem putN_dg {s row d h : Nat} (hd : d ≤ 3) (hh : h ≤ 4) (hs : s < 4 ^ h) : ∀ n, row + n ≤ h → (∀ k, row ≤ k → k < row + n → dg s k = 0) → putN s row d n < 4 ^ h ∧ ∀ r, r < h → dg (putN s row d n) r = if row ≤ r ∧ r < row + n then d else dg s r := by
  intro n
  induction n with
  | zero => intro _ _; exact ⟨hs, fun r _ => by rw [if_neg (by omega)]; rfl⟩
  | succ n ih =>
    intro h1 h2
    obtain ⟨i1, i2⟩ := ih (by omega) fun k hk hk' => h2 k hk (by omega)
    have h0 : dg (putN s row d n) (row + n) = 0 := by
      rw [i2 (row + n) (by omega), if_neg (by omega)]
      exact h2 (row + n) (by omega) (by omega)
    refine ⟨put_lt hd (by omega) hh i1 h0, fun r hr => ?_⟩
    show dg (putN s row d n + d * 4 ^ (row + n)) r = _
    rw [dg_put hd (by omega) (by omega) h0]
    by_cases e : r = row + n
    · rw [if_pos e, if_pos (by omega)]
    · rw [if_neg e, i2 r hr]
      by_cases e2 : row ≤ r ∧ r < row + n
      · rw [if_pos e2, if_pos (by omega)]
      · rw [if_neg e2, if_neg (by omega)]
/-- The state with n rows shifted. -/
def shN (s : Nat) : Nat → Nat
  | 0 => s
  | n + 1 => shN s n - 4 ^ n
theorem shN_dg {s h : Nat} (hh : h ≤ 4) (hs : s < 4 ^ h) (h1 : ∀ r, r < h → 1 ≤ dg s r) : ∀ n, n ≤ h → shN s n < 4 ^ h ∧ (∀ r, r < h → dg (shN s n) r = if r < n then dg s r - 1 else dg s r) ∧ (n < h → 4 ^ n ≤ shN s n) := by
  intro n
  induction n with
  | zero =>
    intro _
    refine ⟨hs, fun r _ => by rw [if_neg (by omega)]; rfl, fun h0 => ?_⟩
    exact (dg_sub (r := 0) (by omega) (by omega) (h1 0 h0)).1
  | succ n ih =>
    intro hn
    obtain ⟨i1, i2, i3⟩ := ih (by omega)
    have h0 : 1 ≤ dg (shN s n) n := by rw [i2 n (by omega), if_neg (by omega)]; exact h1 n (by omega)
    have key : ∀ r, r < h → dg (shN s (n + 1)) r = if r < n + 1 then dg s r - 1 else dg s r := fun r hr => by
      show dg (shN s n - 4 ^ n) r = _
      rw [(dg_sub (by omega) (by omega) h0).2, i2 r hr]
      by_cases e : r = n
      · subst e
        rw [if_pos rfl, if_neg (by omega), if_pos (by omega)]
      · rw [if_neg e]
        by_cases e2 : r < n
        · rw [if_pos e2, if_pos (by omega)]
        · rw [if_neg e2, if_neg (by omega)]
    refine ⟨Nat.lt_of_le_of_lt (Nat.sub_le _ _) i1, key, fun hlt => ?_⟩
    have : 1 ≤ dg (shN s (n + 1)) (n + 1) := by rw [key (n + 1) hlt, if_neg (by omega)]; exact h1 _ hlt
    exact (dg_sub (r := 0) (by omega) (by omega) this).1
/-- The column of a state. -/
def prof (h : Nat) (H left : Nat) (s : Nat) : List Int := (List.range h).map fun r => (H : Int) - left + dg s r
theorem prof_len (h H left s : Nat) : (prof h H left s).length = h := by simp [prof]
theorem prof_get {h H left s r : Nat} (hr : r < h) : (prof h H left s)[r]? = some ((H : Int) - left + dg s r) := by simp [prof, hr]
theorem prof_get' {h H left s r : Nat} {u : Int} (hu : (prof h H left s)[r]? = some u) : r < h ∧ u = (H : Int) - left + dg s r := by
  have hr : r < h := by have := (List.getElem?_eq_some_iff.1 hu).1; rwa [prof_len] at this
  rw [prof_get hr] at hu
  exact ⟨hr, (Option.some.inj hu).symm⟩
/-- States that come: no row stands out. -/
structure StS (h left s : Nat) : Prop where
  lt : s < 4 ^ h
  dg : ∀ r, r < h → dg s r ≤ left
theorem StS.fl {h H left s : Nat} (hS : StS h left s) (hl : left ≤ H) : Fl h (H : Int) (prof h H left s) := by
  refine ⟨prof_len _ _ _ _, fun i u hu => ?_, fun i u hu => ?_⟩
  · obtain ⟨_, rfl⟩ := prof_get' hu; omega
  · obtain ⟨hi, rfl⟩ := prof_get' hu; have := hS.dg i hi; omega
theorem StS.nil (h left : Nat) (hh : 1 ≤ 4 ^ h) : StS h left 0 := ⟨by omega, fun r _ => by rw [dg_nil]; omega⟩
theorem StS.shift {h left s : Nat} (hh : h ≤ 4) (hS : StS h left s) (h1 : ∀ r, r < h → 1 ≤ Go.Proofs.Ytebnekicbcdnaaa.dg s r) : StS h (left - 1) (shN s h) := by
  obtain ⟨a, b, _⟩ := shN_dg hh hS.lt h1 h (Nat.le_refl _)
  refine ⟨a, fun r hr => ?_⟩
  rw [b r hr, if_pos hr]
  have := hS.dg r hr
  omega
theorem prof_shift {h H left s : Nat} (hh : h ≤ 4) (hS : StS h left s) (h1 : ∀ r, r < h → 1 ≤ dg s r) (hl : 1 ≤ left) : prof h H (left - 1) (shN s h) = prof h H left s := by
  obtain ⟨_, b, _⟩ := shN_dg hh hS.lt h1 h (Nat.le_refl _)
  unfold prof
  refine List.map_congr_left fun r hr => ?_
  rw [List.mem_range] at hr
  rw [b r hr, if_pos hr]
  have := h1 r hr
  omega
/-- The first row that is not full. -/
def FR (h s row : Nat) : Prop := row < h ∧ dg s row = 0 ∧ ∀ r, r < row → 1 ≤ dg s r
theorem FR.fm {h H left s row : Nat} (hf : FR h s row) : FM (prof h H left s) row ((H : Int) - left) := by
  refine ⟨?_, fun i u hu => ?_, fun i u hi hu => ?_⟩
  · rw [prof_get hf.1, hf.2.1]; simp
  · obtain ⟨_, rfl⟩ := prof_get' hu; omega
  · obtain ⟨_, rfl⟩ := prof_get' hu; have := hf.2.2 i hi; omega
/-- A square has room. -/
def OkP (h left s row d : Nat) : Prop := row + d ≤ h ∧ d ≤ left ∧ ∀ k, row ≤ k → k < row + d → dg s k = 0
theorem okP_iff {h H left s row r d : Nat} (hr : RM (prof h H left s) H row ((H : Int) - left) r) : OkP h left s row d ↔ d ≤ r := by
  have hw := hr.w
  rw [prof_len] at hw
  have hh := hr.h
  constructor
  · intro ⟨h1, h2, h3⟩
    apply Classical.byContradiction
    intro hn
    refine hr.n ⟨by rw [prof_len]; omega, by omega, ?_⟩
    rw [prof_get (by omega), h3 (row + r) (by omega) (by omega)]
    simp
  · intro hd
    refine ⟨by omega, by omega, fun k h1 h2 => ?_⟩
    have := hr.l k h1 (by omega)
    rw [prof_get (by omega)] at this
    have := Option.some.inj this
    omega
theorem StS.put {h left s row d : Nat} (hh : h ≤ 4) (hd : d ≤ 3) (hS : StS h left s) (hp : OkP h left s row d) : StS h left (putN s row d d) := by
  obtain ⟨a, b⟩ := putN_dg hd hh hS.lt d hp.1 hp.2.2
  refine ⟨a, fun r hr => ?_⟩
  rw [b r hr]
  split
  · exact hp.2.1
  · exact hS.dg r hr
theorem prof_put {h H left s row d : Nat} (hh : h ≤ 4) (hd : d ≤ 3) (hS : StS h left s) (hp : OkP h left s row d) : liftF (prof h H left s) row d d = prof h H left (putN s row d d) := by
  obtain ⟨_, b⟩ := putN_dg hd hh hS.lt d hp.1 hp.2.2
  apply List.ext_getElem?
  intro r
  rw [liftF_get]
  by_cases hr : r < h
  · rw [prof_get hr, prof_get hr, b r hr]
    simp only [Option.map_some]
    by_cases e : row ≤ r ∧ r < row + d
    · rw [if_pos e, if_pos e, hp.2.2 r e.1 e.2]; simp
    · rw [if_neg e, if_neg e]
  · rw [List.getElem?_eq_none (by rw [prof_len]; omega), List.getElem?_eq_none (by rw [prof_len]; omega)]; rfl
theorem prof_four {h H left s row : Nat} (hS : StS h left s) (hh : h ≤ 4) (hp : OkP h left s row 4) : h = 4 ∧ row = 0 ∧ s = 0 ∧ 4 ≤ left ∧ liftF (prof h H left s) row 4 4 = prof h H (left - 4) 0 := by
  have h4 : h = 4 := by have := hp.1; omega
  have hr : row = 0 := by have := hp.1; omega
  subst h4
  subst hr
  have h0 := hp.2.2 0 (by omega) (by omega)
  have h1 := hp.2.2 1 (by omega) (by omega)
  have h2 := hp.2.2 2 (by omega) (by omega)
  have h3 := hp.2.2 3 (by omega) (by omega)
  have hs := hS.lt
  have hs0 : s = 0 := by
    simp [dg] at h0 h1 h2 h3 hs
    omega
  subst hs0
  have hl := hp.2.1
  refine ⟨rfl, rfl, rfl, hl, ?_⟩
  apply List.ext_getElem?
  intro r
  rw [liftF_get]
  by_cases hr : r < 4
  · rw [prof_get hr, prof_get hr, dg_nil]
    simp only [Option.map_some]
    rw [if_pos (by omega)]
    congr 1
    omega
  · rw [List.getElem?_eq_none (by rw [prof_len]; omega), List.getElem?_eq_none (by rw [prof_len]; omega)]; rfl
/-- How many ways there are to fill what is left of a strip. -/
noncomputable def vS (q : Nat → Bool) (h H left s : Nat) : Nat := nS q h (H : Int) (prof h H left s)
theorem zero_of {h s : Nat} (hh : h ≤ 4) (hs : s < 4 ^ h) (h0 : ∀ r, r < h → dg s r = 0) : s = 0 := by
  have hh' : h = 0 ∨ h = 1 ∨ h = 2 ∨ h = 3 ∨ h = 4 := by omega
  rcases hh' with rfl | rfl | rfl | rfl | rfl
  · simp at hs; exact hs
  · have a := h0 0 (by omega)
    simp [dg] at a hs; omega
  · have a := h0 0 (by omega)
    have b := h0 1 (by omega)
    simp [dg] at a b hs; omega
  · have a := h0 0 (by omega)
    have b := h0 1 (by omega)
    have c := h0 2 (by omega)
    simp [dg] at a b c hs; omega
  · have a := h0 0 (by omega)
    have b := h0 1 (by omega)
    have c := h0 2 (by omega)
    have d := h0 3 (by omega)
    simp [dg] at a b c d hs; omega
theorem vS_zero {q : Nat → Bool} {h H s : Nat} (h1 : 1 ≤ h) (hh : h ≤ 4) (hS : StS h 0 s) : s = 0 ∧ vS q h H 0 s = 1 := by
  have h0 : ∀ r, r < h → dg s r = 0 := fun r hr => by have := hS.dg r hr; omega
  refine ⟨zero_of hh hS.lt h0, ?_⟩
  have hf : FR h s 0 := ⟨by omega, h0 0 (by omega), fun r hr => by omega⟩
  have hm := hf.fm (H := H) (left := 0)
  obtain ⟨r, hr⟩ := RM.ex (f := prof h H 0 s) (x := 0) (y := (H : Int) - (0 : Nat)) (H := H) (by omega) (by omega)
  have := hr.h
  obtain rfl : r = 0 := by omega
  exact nS_leaf hm hr
theorem vS_full {q : Nat → Bool} {h H left s : Nat} (hh : h ≤ 4) (hS : StS h left s) (h1 : ∀ r, r < h → 1 ≤ dg s r) (hl : 1 ≤ left) : vS q h H left s = vS q h H (left - 1) (shN s h) := by
  unfold vS
  rw [prof_shift hh hS h1 hl]
/-- The ways with a square of a side first. -/
noncomputable def tV (q : Nat → Bool) (h H left s row d : Nat) : Nat := if dc (OkP h left s row d) then (if d = 4 then vS q h H (left - 4) 0 else vS q h H left (putN s row d d)) else 0
theorem vS_free {q : Nat → Bool} {h H left s row : Nat} (hh : h ≤ 4) (hS : StS h left s) (hf : FR h s row) (hl : 1 ≤ left) (hH : left ≤ H) : vS q h H left s = ((List.range h).map fun i => if q (i + 1) then 0 else tV q h H left s row (i + 1)).sum := by
  have hfl := hS.fl hH
  have hm := hf.fm (H := H) (left := left)
  have h1 : 1 ≤ h := by have := hf.1; omega
  obtain ⟨r, hr⟩ := RM.ex (f := prof h H left s) (x := row) (y := (H : Int) - left) (H := H) (by rw [prof_len]; have := hf.1; omega) (by omega)
  have hok : ∀ d, OkP h left s row d ↔ d ≤ r := fun d => okP_iff hr
  have hr1 : 1 ≤ r := (hok 1).1 ⟨by have := hf.1; omega, hl, fun k h1 h2 => by rw [show k = row by omega]; exact hf.2.1⟩
  have hrh : r ≤ h := by have := hr.w; rw [prof_len] at this; omega
  unfold vS
  rw [nS_node h1 hfl hm hr (by omega)]
  have key : ∀ n, n ≤ h → ((List.range n).map fun i => if q (i + 1) then 0 else tV q h H left s row (i + 1)).sum = ((List.range (min n r)).map fun i => if q (i + 1) then 0 else nS q h (H : Int) (liftF (prof h H left s) row (i + 1) ((i + 1 : Nat) : Int))).sum := by
    intro n
    induction n with
    | zero => intro _; simp
    | succ n ih =>
      intro hn
      rw [sum_range_map, ih (by omega)]
      by_cases e : n + 1 ≤ r
      · rw [show min (n + 1) r = min n r + 1 by omega, sum_range_map, show min n r = n by omega]
        congr 1
        by_cases hq : q (n + 1) = true
        · rw [if_pos hq, if_pos hq]
        · rw [if_neg hq, if_neg hq]
          have hp : OkP h left s row (n + 1) := (hok _).2 e
          unfold tV vS
          rw [dc_true hp, if_pos rfl]
          by_cases h4 : n + 1 = 4
          · rw [if_pos h4]
            have hp4 := hp
            rw [h4] at hp4 ⊢
            have := (prof_four (H := H) hS hh hp4).2.2.2.2
            rw [← this]; rfl
          · rw [if_neg h4, prof_put hh (by omega) hS hp]
      · rw [show min (n + 1) r = min n r by omega]
        have hp : ¬ OkP h left s row (n + 1) := fun hp => e ((hok _).1 hp)
        have : tV q h H left s row (n + 1) = 0 := by unfold tV; rw [dc_false hp]; rfl
        rw [this]
        simp
  have := key h (Nat.le_refl _)
  rw [show min h r = r by omega] at this
  exact this.symm
theorem vS_small {q : Nat → Bool} {h H left s : Nat} (h1 : 1 ≤ h) (hh : h ≤ 4) (hH : H ≤ 30) (hl : left ≤ H) (hS : StS h left s) : vS q h H left s ≤ 4611686018427387904 := nS_small h1 hh (by omega) (hS.fl hl)
/-- What grows less. -/
def mu (h H left s : Nat) : Nat := free h (H : Int) (prof h H left s) + left
theorem mu_shift {h H left s : Nat} (hh : h ≤ 4) (hS : StS h left s) (h1 : ∀ r, r < h → 1 ≤ dg s r) (hl : 1 ≤ left) : mu h H (left - 1) (shN s h) < mu h H left s := by
  unfold mu
  rw [prof_shift hh hS h1 hl]
  omega
theorem mu_put {h H left s row d : Nat} (hh : h ≤ 4) (hS : StS h left s) (hf : FR h s row) (hH : left ≤ H) (hd1 : 1 ≤ d) (hp : OkP h left s row d) : (if d = 4 then mu h H (left - 4) 0 else mu h H left (putN s row d d)) < mu h H left s := by
  have hfl := hS.fl hH
  have hm := hf.fm (H := H) (left := left)
  obtain ⟨r, hr⟩ := RM.ex (f := prof h H left s) (x := row) (y := (H : Int) - left) (H := H) (by rw [prof_len]; have := hf.1; omega) (by omega)
  have hdr := (okP_iff hr).1 hp
  have hn := free_next hfl hm hr hdr
  have h1 : 1 ≤ d * d := Nat.mul_pos (by omega) (by omega)
  unfold mu
  by_cases h4 : d = 4
  · subst h4
    rw [if_pos rfl]
    have := (prof_four (H := H) hS hh hp).2.2.2.2
    have e : ((4 : Nat) : Int) = 4 := rfl
    rw [e] at hn
    rw [this] at hn
    omega
  · rw [if_neg h4]
    have hd3 : d ≤ 3 := by have := hp.1; omega
    rw [prof_put hh hd3 hS hp] at hn
    omega
theorem sum_le_range (T : Nat → Nat) {n m : Nat} (h : n ≤ m) : ((List.range n).map T).sum ≤ ((List.range m).map T).sum := by
  induction m with
  | zero => obtain rfl : n = 0 := by omega
            exact Nat.le_refl _
  | succ m ih =>
    by_cases e : n = m + 1
    · subst e; exact Nat.le_refl _
    · rw [sum_range_map]
      have := ih (by omega)
      omega
end Go.Proofs.Ytebnekicbcdnaaa
