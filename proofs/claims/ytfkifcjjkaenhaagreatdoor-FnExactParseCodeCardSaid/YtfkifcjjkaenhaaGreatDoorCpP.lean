/- Reading a code's text: plain. -/
import Derived.Test.YtfkifcjjkaenhaaGreatDoorCd0
import Derived.Test.YtfkifcjjkaenhaaGreatDoorSpP
import Derived.Lib.IndexMore
set_option linter.all false
namespace Go.Proofs.YtfkifcjjkaenhaaGreatDoor
open Go.RowKit

/-- What is read as a number is its decimal. -/
theorem dec_snoc {n d : Nat} (hd : d < 10) (hn : 1 ≤ n) : dec (10 * n + d) = dec n ++ [dig d] := by
  rw [dec_great (by omega)]
  have e1 : (10 * n + d) / 10 = n := by omega
  have e2 : (10 * n + d) % 10 = d := by omega
  rw [e1, e2]
theorem dig_of {c : UInt8} (h : 48 ≤ c.toNat ∧ c.toNat ≤ 57) : dig (c.toNat - 48) = c := by
  apply UInt8.toNat_inj.1
  rw [dig_nat (by omega)]; omega
theorem dec_vl : ∀ (k : Nat) (l : List UInt8), l.length = k → 1 ≤ l.length → (∀ c ∈ l, 48 ≤ c.toNat ∧ c.toNat ≤ 57) → ¬ (l[0]? = some 48 ∧ 1 < l.length) → dec (vl l) = l
  | 0, l, hk, h1, _, _ => by omega
  | k + 1, l, hk, _, hd, hz => by
    have hne : l ≠ [] := by intro e; rw [e] at hk; simp at hk
    obtain ⟨l', c, rfl⟩ : ∃ l' c, l = l' ++ [c] := ⟨l.dropLast, l.getLast hne, (List.dropLast_concat_getLast hne).symm⟩
    have hc := hd c (by simp)
    rw [vl_snoc]
    cases hl' : l' with
    | nil =>
      subst hl'
      have : 10 * vl [] + (c.toNat - 48) = c.toNat - 48 := by simp [vl]
      rw [this, dec_small (by omega), dig_of hc]; rfl
    | cons a r =>
      have ih := dec_vl k l' (by simpa using hk) (by rw [hl']; simp) (fun x hx => hd x (by simp [hx])) (fun ⟨h0, h2⟩ => hz ⟨by rw [List.getElem?_append_left (by omega)]; exact h0, by simp; omega⟩)
      rw [← hl']
      have hv : 1 ≤ vl l' := by
        rcases Nat.eq_zero_or_pos (vl l') with h | h
        · exfalso
          rw [h, dec_small (by omega)] at ih
          have h0 : l'[0]? = some 48 := by rw [← ih]; rfl
          exact hz ⟨by rw [List.getElem?_append_left (by rw [hl']; simp)]; exact h0, by rw [hl']; simp⟩
        · exact h
      rw [dec_snoc (by omega) hv, ih, dig_of hc]
theorem rd_inv {l : List UInt8} (h : 0 ≤ rdI l) : l = dec (rdI l).toNat := by
  by_cases hg : rdG l
  · rw [rdI_yes hg]
    obtain ⟨h1, h2, h3, h4⟩ := hg
    have := dec_vl l.length l rfl h1 h4 h3
    rw [← rdF_vl] at this
    simpa using this.symm
  · rw [rdI_no hg] at h; omega
/-- A group's text behind its opening, read. -/
noncomputable def gro (r : List UInt8) : List Int := (spl 44 r).map rdI
theorem gro_dcs {g : List Int} (h0 : g ≠ []) (hs : Sm g) : gro (Lib.join (dcs g) [44]) = g := by
  unfold gro
  rw [spl_join 44 _ (by simpa [dcs] using h0) (fun x hx => by obtain ⟨s, _, rfl⟩ := List.mem_map.1 hx; exact dec_no (by decide))]
  unfold dcs
  rw [List.map_map]
  conv => rhs; rw [← List.map_id g]
  apply List.map_congr_left
  intro s hs'
  have := hs.2 s hs'
  show rdI (dec s.toNat) = s
  rw [rd_dec (by omega)]; omega
theorem gro_inv {r : List UInt8} (h : ∀ s ∈ gro r, 0 ≤ s) : r = Lib.join (dcs (gro r)) [44] := by
  have e : dcs (gro r) = spl 44 r := by
    unfold dcs gro
    rw [List.map_map]
    conv => rhs; rw [← List.map_id (spl 44 r)]
    apply List.map_congr_left
    intro x hx
    exact (rd_inv (h (rdI x) (List.mem_map.2 ⟨x, hx, rfl⟩))).symm
  rw [e, join_spl]
/-- One group's text, read: if it has an opening. -/
noncomputable def gpo : List UInt8 → Option (List Int)
  | [] => none
  | c :: r => if c = 40 then some (gro r) else none
noncomputable def gpsOf : List (List UInt8) → Option (List (List Int))
  | [] => some []
  | t :: R => match gpo t, gpsOf R with
    | some g, some M => some (g :: M)
    | _, _ => none
theorem gpsOf_app : ∀ (R : List (List UInt8)) (t : List UInt8), gpsOf (R ++ [t]) = (match gpsOf R, gpo t with | some M, some g => some (M ++ [g]) | _, _ => none)
  | [], t => by simp only [List.nil_append, gpsOf]; cases gpo t <;> rfl
  | a :: R, t => by
    simp only [List.cons_append, gpsOf, gpsOf_app R t]
    cases gpo a <;> cases gpsOf R <;> cases gpo t <;> rfl
theorem gpsOf_bad {R : List (List UInt8)} : ∀ {k : Nat} (_ : k ≤ R.length), gpsOf (R.take k) = none → gpsOf R = none := by
  induction R with
  | nil => intro k _ h; simpa using h
  | cons a R ih =>
    intro k hk h
    cases k with
    | zero => simp [gpsOf] at h
    | succ k =>
      simp only [List.take_succ_cons, gpsOf] at h ⊢
      cases ha : gpo a with
      | none => rfl
      | some s =>
        rw [ha] at h
        cases hr : gpsOf (R.take k) with
        | none => rw [ih (by simpa using hk) hr]
        | some L => rw [hr] at h; cases h
theorem gpsOf_len {R : List (List UInt8)} : ∀ {M : List (List Int)}, gpsOf R = some M → M.length = R.length := by
  induction R with
  | nil => intro L h; simp [gpsOf] at h; subst h; rfl
  | cons a R ih =>
    intro L h
    simp only [gpsOf] at h
    cases ha : gpo a with
    | none => rw [ha] at h; cases h
    | some s =>
      cases hr : gpsOf R with
      | none => rw [ha, hr] at h; cases h
      | some M => rw [ha, hr] at h; cases h; simp [ih hr]
/-- A group's text without its closing. -/
def gpt (g : List Int) : List UInt8 := 40 :: Lib.join (dcs g) [44]
theorem gpsOf_gpt : ∀ (M : List (List Int)), (∀ g ∈ M, g ≠ [] ∧ Sm g) → gpsOf (M.map gpt) = some M
  | [], _ => rfl
  | g :: M, h => by
    have h1 := h g (by simp)
    simp only [List.map_cons, gpsOf, gpsOf_gpt M (fun q hq => h q (List.mem_cons_of_mem _ hq))]
    have : gpo (gpt g) = some g := by unfold gpo gpt; simp only [if_true]; rw [gro_dcs h1.1 h1.2]
    rw [this]
theorem gpo_inv {t : List UInt8} {g : List Int} (h : gpo t = some g) : ∃ r, t = 40 :: r ∧ g = gro r := by
  cases t with
  | nil => cases h
  | cons c r =>
    unfold gpo at h
    simp only at h
    by_cases hc : c = 40
    · rw [if_pos hc] at h
      cases h
      exact ⟨r, by rw [hc], rfl⟩
    · rw [if_neg hc] at h
      cases h
theorem gpsOf_inv : ∀ {R : List (List UInt8)} {M : List (List Int)}, gpsOf R = some M → (∀ g ∈ M, ∀ s ∈ g, 0 ≤ s) → R = M.map gpt
  | [], M, h, _ => by simp [gpsOf] at h; subst h; rfl
  | t :: R, M, h, hM => by
    simp only [gpsOf] at h
    cases ha : gpo t with
    | none => rw [ha] at h; cases h
    | some g =>
      cases hr : gpsOf R with
      | none => rw [ha, hr] at h; cases h
      | some N =>
        rw [ha, hr] at h
        obtain rfl : g :: N = M := Option.some.inj h
        have ih := gpsOf_inv hr (fun q hq => hM q (List.mem_cons_of_mem _ hq))
        have hg := hM g (by simp)
        obtain ⟨r, rfl, rfl⟩ := gpo_inv ha
        rw [List.map_cons, ← ih]
        unfold gpt
        rw [← gro_inv hg]
theorem gpt_no (g : List Int) : (41 : UInt8) ∉ gpt g := by
  unfold gpt
  intro h
  rcases List.mem_cons.1 h with h | h
  · cases h
  · have : ∀ (xs : List (List UInt8)), (∀ x ∈ xs, (41 : UInt8) ∉ x) → (41 : UInt8) ∉ Lib.join xs [44] := by
      intro xs
      induction xs with
      | nil => intro _ h; simp [Lib.join] at h
      | cons x r ih =>
        intro hx h
        cases r with
        | nil => rw [Lib.join_one] at h; exact hx x (by simp) h
        | cons y t =>
          have e : Lib.join (x :: y :: t) [44] = x ++ 44 :: Lib.join (y :: t) [44] := by simp [Lib.join]
          rw [e] at h
          rcases List.mem_append.1 h with h | h
          · exact hx x (by simp) h
          · rcases List.mem_cons.1 h with h | h
            · cases h
            · exact ih (fun z hz => hx z (List.mem_cons_of_mem _ hz)) h
    exact this _ (fun x hx => by obtain ⟨s, _, rfl⟩ := List.mem_map.1 hx; exact dec_no (by decide)) h
theorem cdt_join : ∀ {M : List (List Int)}, M ≠ [] → cdt M = Lib.join (M.map gpt) [41] ++ [41]
  | [], h => absurd rfl h
  | [g], _ => by simp [cdt, grt, gpt, Lib.join_one]
  | g :: k :: M, _ => by
    have ih := cdt_join (M := k :: M) (by simp)
    have e : Lib.join ((g :: k :: M).map gpt) [41] = gpt g ++ 41 :: Lib.join ((k :: M).map gpt) [41] := by simp [Lib.join]
    rw [e]
    show grt g ++ cdt (k :: M) = _
    rw [ih]; simp [grt, gpt]
/-- The code that a text tells: the texts before the closings. -/
theorem spl_cdt {M : List (List Int)} (h0 : M ≠ []) : spl 41 (Lib.join (M.map gpt) [41]) = M.map gpt :=
  spl_join 41 _ (by simpa using h0) (fun x hx => by obtain ⟨g, _, rfl⟩ := List.mem_map.1 hx; exact gpt_no g)

/-- Splitting at a mark of two bytes, as strings.SplitN does. -/
theorem ix2 (s sub : List UInt8) : (Lib.index s sub = -1) ∨ ∃ i : Nat, Lib.index s sub = i ∧ s = s.take i ++ sub ++ s.drop (i + sub.length) := by
  rcases Lib.index_spec s sub with ⟨h, _⟩ | ⟨i, h, hi, ho, _⟩
  · exact .inl h
  · refine .inr ⟨i, h, ?_⟩
    have hp : sub <+: s.drop i := List.isPrefixOf_iff_prefix.1 (by simpa [Lib.occAt] using ho)
    obtain ⟨t, ht⟩ := hp
    have e1 := List.take_append_drop i s
    have e2 : s.drop (i + sub.length) = t := by
      rw [← List.drop_drop, ← ht]; simp
    rw [e2, List.append_assoc, ht]; exact e1.symm
theorem splitK2_ne (sep : List UInt8) (k : Nat) (s : List UInt8) : Lib.splitK sep 0 k s ≠ [] := by
  cases k with
  | zero => simp [Lib.splitK]
  | succ k => unfold Lib.splitK; split <;> simp
theorem join_cons3 (sep x : List UInt8) {r : List (List UInt8)} (h : r ≠ []) : Lib.join (x :: r) sep = x ++ sep ++ Lib.join r sep := by
  cases r with
  | nil => exact absurd rfl h
  | cons y t => simp [Lib.join]
theorem splitK2_join (sep : List UInt8) : ∀ (k : Nat) (s : List UInt8), Lib.join (Lib.splitK sep 0 k s) sep = s
  | 0, s => by simp [Lib.splitK, Lib.join_one]
  | k + 1, s => by
    rcases ix2 s sep with h | ⟨i, h, e⟩
    · unfold Lib.splitK; rw [h]; exact Lib.join_one _ _
    · have hm : ¬ ((i : Int) == -1) = true := fun e => by have := beq_iff_eq.1 e; omega
      rw [Lib.splitK, h, if_neg hm, join_cons3 sep _ (splitK2_ne sep k _), splitK2_join sep k]
      simpa using e.symm
theorem ix2_app (a b : UInt8) (x r : List UInt8) (hx : a ∉ x) : Lib.index (x ++ [a, b] ++ r) [a, b] = x.length := by
  refine Lib.index_first (by simp) ?_ ?_
  · simp [Lib.occAt, List.isPrefixOf]
  · intro j hj
    have e : (x ++ [a, b] ++ r).drop j = x[j] :: (x.drop (j + 1) ++ ([a, b] ++ r)) := by
      rw [List.append_assoc, List.drop_append_of_le_length (by omega), List.drop_eq_getElem_cons hj]; rfl
    unfold Lib.occAt
    rw [e]
    have hne : a ≠ x[j] := fun h => hx (h ▸ List.getElem_mem hj)
    simp [List.isPrefixOf, hne]
theorem ix2_none (a b : UInt8) (x : List UInt8) (hx : a ∉ x) : Lib.index x [a, b] = -1 := by
  rcases ix2 x [a, b] with h | ⟨i, h, e⟩
  · exact h
  · exact absurd (by rw [e]; simp) hx
theorem splitK2_of (a b : UInt8) : ∀ (xs : List (List UInt8)), xs ≠ [] → (∀ x ∈ xs, a ∉ x) → ∀ k, xs.length ≤ k + 1 → Lib.splitK [a, b] 0 k (Lib.join xs [a, b]) = xs
  | [], h, _, _, _ => absurd rfl h
  | [x], _, hb, k, _ => by
    rw [Lib.join_one]
    have h := ix2_none a b x (hb x (by simp))
    cases k with
    | zero => rfl
    | succ k => unfold Lib.splitK; rw [h]; rfl
  | x :: y :: r, _, hb, k, hk => by
    obtain ⟨k', rfl⟩ : ∃ k', k = k' + 1 := ⟨k - 1, by simp at hk; omega⟩
    rw [join_cons3 [a, b] x (by simp)]
    have h := ix2_app a b x (Lib.join (y :: r) [a, b]) (hb x (by simp))
    have hm : ¬ ((x.length : Int) == -1) = true := fun e => by have := beq_iff_eq.1 e; omega
    have e1 : (x ++ [a, b] ++ Lib.join (y :: r) [a, b]).take x.length = x := by simp
    have e2 : (x ++ [a, b] ++ Lib.join (y :: r) [a, b]).drop (x.length + 2) = Lib.join (y :: r) [a, b] := by simp [List.append_assoc, List.drop_append]
    have ih := splitK2_of a b (y :: r) (by simp) (fun z hz => hb z (List.mem_cons_of_mem _ hz)) k' (by simp at hk ⊢; omega)
    rw [Lib.splitK, h, if_neg hm]
    show (x ++ [a, b] ++ Lib.join (y :: r) [a, b]).take (x.length + 0) :: Lib.splitK [a, b] 0 k' ((x ++ [a, b] ++ Lib.join (y :: r) [a, b]).drop (x.length + 2)) = _
    rw [Nat.add_zero, e1, e2, ih]
end Go.Proofs.YtfkifcjjkaenhaaGreatDoor
