/- Splitting at a byte as strings.SplitN does, and numbers as strconv.Atoi reads them: plain. -/
import Derived.Test.YtfkifcjjkaenhaaGreatDoorPcP
import Derived.Test.YtfkifcjjkaenhaaGreatDoorNt
import Derived.Lib.SplitLaws
import Derived.Lib.IndexBytes
import Derived.Lib.IndexLaws
import Derived.Lib.AtoiAllCases
set_option linter.all false
namespace Go.Proofs.YtfkifcjjkaenhaaGreatDoor
open Go.RowKit

theorem ix_cases (b : UInt8) (l : List UInt8) : (Lib.index l [b] = -1 ∧ b ∉ l) ∨ ∃ i : Nat, Lib.index l [b] = i ∧ i < l.length ∧ l = l.take i ++ b :: l.drop (i + 1) ∧ b ∉ l.take i := by
  have hge := Lib.index_ge l [b]
  have e := Lib.index_one l b
  by_cases h : Lib.index l [b] = -1
  · refine Or.inl ⟨h, fun hm => ?_⟩
    obtain ⟨k, hk⟩ := List.mem_iff_getElem?.1 hm
    exact Lib.indexByte_none (by rw [← e]; exact h) k hk
  · obtain ⟨i, hi⟩ : ∃ i : Nat, Lib.index l [b] = i := ⟨(Lib.index l [b]).toNat, by omega⟩
    have h2 := Lib.indexByte_some (l := l) (c := b) (o := i) (by rw [← e]; exact hi)
    obtain ⟨hl, hv⟩ := List.getElem?_eq_some_iff.1 h2.1
    refine Or.inr ⟨i, hi, hl, ?_, fun hm => ?_⟩
    · have h3 := List.take_append_drop i l
      rw [List.drop_eq_getElem_cons hl, hv] at h3
      exact h3.symm
    · obtain ⟨k, hk⟩ := List.mem_iff_getElem?.1 hm
      rw [List.getElem?_take] at hk
      split at hk
      · rename_i hki; exact h2.2 k hki hk
      · cases hk
theorem splitK_ne (b : UInt8) (k : Nat) (s : List UInt8) : Lib.splitK [b] 0 k s ≠ [] := by
  cases k with
  | zero => simp [Lib.splitK]
  | succ k => unfold Lib.splitK; split <;> simp
theorem join_cons2 (b : UInt8) (x : List UInt8) {r : List (List UInt8)} (h : r ≠ []) : Lib.join (x :: r) [b] = x ++ b :: Lib.join r [b] := by
  cases r with
  | nil => exact absurd rfl h
  | cons y t => simp [Lib.join]
theorem splitK_miss (b : UInt8) (k : Nat) (s : List UInt8) (h : Lib.index s [b] = -1) : Lib.splitK [b] 0 k s = [s] := by
  cases k with
  | zero => rfl
  | succ k => unfold Lib.splitK; rw [h]; rfl
theorem splitK_hit (b : UInt8) (k : Nat) (s : List UInt8) (i : Nat) (h : Lib.index s [b] = i) : Lib.splitK [b] 0 (k + 1) s = s.take i :: Lib.splitK [b] 0 k (s.drop (i + 1)) := by
  have hm : ¬ ((i : Int) == -1) = true := fun e => by have := beq_iff_eq.1 e; omega
  rw [Lib.splitK, h, if_neg hm]; rfl
theorem splitK_join (b : UInt8) : ∀ (k : Nat) (s : List UInt8), Lib.join (Lib.splitK [b] 0 k s) [b] = s
  | 0, s => by simp [Lib.splitK, Lib.join_one]
  | k + 1, s => by
    rcases ix_cases b s with ⟨h, _⟩ | ⟨i, h, hi, e, _⟩
    · rw [splitK_miss b _ _ h]; exact Lib.join_one _ _
    · rw [splitK_hit b k s i h, join_cons2 b _ (splitK_ne b k _), splitK_join b k]
      exact e.symm
theorem at_take (b : UInt8) {l tl : List UInt8} {i : Nat} (hi : i < l.length) (e : l = l.take i ++ b :: tl) : l[i]? = some b := by
  have h : (l.take i ++ b :: tl)[i]? = some b := by
    rw [List.getElem?_append_right (by rw [List.length_take]; omega), List.length_take, Nat.min_eq_left (by omega), Nat.sub_self]; rfl
  rw [← e] at h
  exact h
theorem ix_app (b : UInt8) (x r : List UInt8) (hx : b ∉ x) : Lib.index (x ++ b :: r) [b] = x.length := by
  rcases ix_cases b (x ++ b :: r) with ⟨_, h⟩ | ⟨i, h, hi, e, hn⟩
  · exact absurd (by simp) h
  · rw [h]
    have e1 := at_take b hi e
    congr 1
    rcases Nat.lt_trichotomy i x.length with hlt | heq | hgt
    · rw [List.getElem?_append_left hlt] at e1
      exact absurd (List.mem_of_getElem? e1) hx
    · exact heq
    · exfalso; apply hn
      refine List.mem_iff_getElem?.2 ⟨x.length, ?_⟩
      rw [List.getElem?_take, if_pos hgt, List.getElem?_append_right (Nat.le_refl _), Nat.sub_self]; rfl
theorem splitK_of (b : UInt8) : ∀ (xs : List (List UInt8)), xs ≠ [] → (∀ x ∈ xs, b ∉ x) → ∀ k, xs.length ≤ k + 1 → Lib.splitK [b] 0 k (Lib.join xs [b]) = xs
  | [], h, _, _, _ => absurd rfl h
  | [x], _, hb, k, _ => by
    rw [Lib.join_one]
    rcases ix_cases b x with ⟨h, _⟩ | ⟨i, h, hi, e, _⟩
    · exact splitK_miss b k x h
    · exact absurd (by rw [e]; simp) (hb x (by simp))
  | x :: y :: r, _, hb, k, hk => by
    obtain ⟨k', rfl⟩ : ∃ k', k = k' + 1 := ⟨k - 1, by simp at hk; omega⟩
    rw [join_cons2 b x (by simp), splitK_hit b k' _ x.length (ix_app b x _ (hb x (by simp)))]
    have e1 : (x ++ b :: Lib.join (y :: r) [b]).take x.length = x := by simp
    have e2 : (x ++ b :: Lib.join (y :: r) [b]).drop (x.length + 1) = Lib.join (y :: r) [b] := by
      rw [List.drop_append]; simp
    rw [e1, e2, splitK_of b (y :: r) (by simp) (fun z hz => hb z (List.mem_cons_of_mem _ hz)) k' (by simp at hk ⊢; omega)]
theorem splitN_join (b : UInt8) (n : Nat) (s : List UInt8) : Lib.join (Lib.splitN s [b] n) [b] = s := splitK_join b _ s
theorem splitN_ne (b : UInt8) (n : Nat) (s : List UInt8) : Lib.splitN s [b] n ≠ [] := splitK_ne b _ s
theorem join_ge (b : UInt8) (xs : List (List UInt8)) : xs.length ≤ (Lib.join xs [b]).length + 1 := by
  cases xs with
  | nil => simp
  | cons x r => rw [Lib.join_length]; simp
theorem splitN_of (b : UInt8) {xs : List (List UInt8)} (hx : xs ≠ []) (hb : ∀ x ∈ xs, b ∉ x) {n : Nat} (hn : xs.length ≤ n) : Lib.splitN (Lib.join xs [b]) [b] n = xs := by
  have h1 := join_ge b xs
  have h2 : 1 ≤ xs.length := List.length_pos_iff.2 hx
  exact splitK_of b xs hx hb _ (by omega)
theorem splitK_len (b : UInt8) : ∀ (k : Nat) (s : List UInt8), (Lib.splitK [b] 0 k s).length ≤ k + 1
  | 0, _ => by simp [Lib.splitK]
  | k + 1, s => by
    unfold Lib.splitK
    split
    · simp
    · have := splitK_len b k (s.drop ((Lib.index s [b]).toNat + [b].length))
      simp only [List.length_cons] at this ⊢; omega
theorem splitN_len (b : UInt8) {n : Nat} (hn : 1 ≤ n) (s : List UInt8) : (Lib.splitN s [b] n).length ≤ min n (s.length + 1) := by
  have := splitK_len b (min n (s.length + 1) - 1) s
  unfold Lib.splitN; omega
theorem bas_data (l : List UInt8) : (bas l).data.toList = l := by simp [bas]
theorem data_bas (s : ByteArray) : bas s.data.toList = s := by obtain ⟨⟨l⟩⟩ := s; rfl
theorem splitB_bas (b : UInt8) (n : Nat) (l : List UInt8) : Lib.splitB (bas [b]) 0 (min n ((bas l).size + 1) - 1) (bas l) = (Lib.splitN l [b] n).map bas := by
  have h := Lib.splitB_data (bas [b]) 0 (min n ((bas l).size + 1) - 1) (bas l)
  rw [bas_data, bas_data, bas_size] at h
  have h2 := congrArg (List.map bas) h
  rw [List.map_map] at h2
  have e : (bas ∘ fun x : ByteArray => x.data.toList) = id := by funext x; exact data_bas x
  rw [e, List.map_id] at h2
  rw [bas_size]
  exact h2
theorem piece_len (b : UInt8) {xs : List (List UInt8)} : ∀ x ∈ xs, x.length ≤ (Lib.join xs [b]).length := by
  induction xs with
  | nil => intro x h; cases h
  | cons y r ih =>
    intro x hx
    cases hr : r with
    | nil => subst hr; rw [Lib.join_one]; obtain rfl : x = y := by simpa using hx
             exact Nat.le_refl _
    | cons z t =>
      rw [← hr, join_cons2 b y (by rw [hr]; simp)]
      rcases List.mem_cons.1 hx with rfl | h
      · simp
      · have := ih x h; simp; omega

/-- Digits read from the left. -/
def fl (a : Nat) (l : List UInt8) : Nat := l.foldl (fun a c => 10 * a + (c.toNat - 48)) a
theorem fl_ge : ∀ (l : List UInt8) (a : Nat), a ≤ fl a l
  | [], a => Nat.le_refl _
  | c :: r, a => by
    have := fl_ge r (10 * a + (c.toNat - 48))
    show a ≤ fl (10 * a + (c.toNat - 48)) r
    omega
theorem parse_dg : ∀ (l : List UInt8) (a : Nat), (∀ c ∈ l, dg c = true) → fl a l < 9223372036854775808 → Lib.parseUint10 a l = .ok (fl a l)
  | [], a, _, _ => rfl
  | c :: r, a, hd, hf => by
    have h1 : 48 ≤ c.toNat ∧ c.toNat ≤ 57 := by have := hd c (by simp); unfold dg at this; simpa using this
    have hf2 : fl (10 * a + (c.toNat - 48)) r < 9223372036854775808 := hf
    have h2 := fl_ge r (10 * a + (c.toNat - 48))
    rw [Lib.parseUint10, if_pos h1, if_neg (by omega), if_neg (by omega), show a * 10 + (c.toNat - 48) = 10 * a + (c.toNat - 48) by omega]
    exact parse_dg r _ (fun d h => hd d (List.mem_cons_of_mem _ h)) hf2
theorem atoi_dec {n : Nat} (hn : n < 9223372036854775808) : Lib.atoiAll (dec n) = .ok (n : Int) := by
  have hv : fl 0 (dec n) = n := vl_dec n
  have hp := parse_dg (dec n) 0 (dec_dg n) (by omega)
  have hne := dec_ne n
  have hdg := dec_dg n
  have hm : Lib.parseMag (dec n) = .ok n := by unfold Lib.parseMag; rw [if_neg hne, hp, hv]
  cases hd : dec n with
  | nil => exact absurd hd hne
  | cons c r =>
    have h1 : 48 ≤ c.toNat ∧ c.toNat ≤ 57 := by have := hdg c (by rw [hd]; simp); unfold dg at this; simpa using this
    rw [Lib.atoiAll_plain c r (by omega) (by omega), ← hd, hm]
    unfold Lib.signless
    simp only
    rw [if_neg (by omega)]
/-- A field that is the text of a number, as the program tests it. -/
def FOk (t : List UInt8) (n : Nat) : Prop := t = dec n ∧ n < 9223372036854775808
theorem fok_ok {t : List UInt8} {v : Int} (h : Lib.atoiAll t = .ok v) (hv : 0 ≤ v) (e : dec v.toNat = t) : FOk t v.toNat := by
  have := Lib.atoiAll_bounds h
  exact ⟨e.symm, by omega⟩
theorem fok_atoi {t : List UInt8} {n : Nat} (h : FOk t n) : Lib.atoiAll t = .ok (n : Int) := by rw [h.1]; exact atoi_dec h.2
theorem fok_inj {t : List UInt8} {n m : Nat} (h : FOk t n) (h' : FOk t m) : n = m := by
  have a := fok_atoi h
  rw [fok_atoi h'] at a
  have := Lib.NumEnd.ok.inj a
  omega
/-- The numbers of a text with a mark between them. -/
def Nums (b : UInt8) (count : Nat) (s : List UInt8) (R : List Nat) : Prop := R.length = count ∧ s = Lib.join (R.map dec) [b] ∧ ∀ r ∈ R, r < 9223372036854775808
theorem nums_fields {b : UInt8} (hb : dg b = false) {count : Nat} (hc : 1 ≤ count) {s : List UInt8} {R : List Nat} (h : Nums b count s R) : Lib.splitN s [b] count = R.map dec := by
  obtain ⟨h1, h2, _⟩ := h
  rw [h2]
  refine splitN_of b ?_ ?_ (by simp [h1])
  · intro e; have := congrArg List.length e; simp [h1] at this; omega
  · intro x hx
    obtain ⟨n, _, rfl⟩ := List.mem_map.1 hx
    exact dec_no hb
theorem nums_uniq {b : UInt8} (hb : dg b = false) {count : Nat} (hc : 1 ≤ count) {s : List UInt8} {R S : List Nat} (h : Nums b count s R) (h' : Nums b count s S) : R = S := by
  have e := (nums_fields hb hc h).symm.trans (nums_fields hb hc h')
  apply List.ext_getElem?
  intro j
  have ej := congrArg (fun l => l[j]?) e
  simp only [List.getElem?_map] at ej
  cases hr : R[j]? with
  | none => rw [hr] at ej; cases hs : S[j]? with
    | none => rfl
    | some y => rw [hs] at ej; cases ej
  | some x => rw [hr] at ej; cases hs : S[j]? with
    | none => rw [hs] at ej; cases ej
    | some y =>
      rw [hs] at ej
      have e2 : dec x = dec y := Option.some.inj ej
      have hx := h.2.2 x (List.mem_of_getElem? hr)
      have hy := h'.2.2 y (List.mem_of_getElem? hs)
      rw [fok_inj (t := dec x) ⟨rfl, hx⟩ ⟨e2, hy⟩]
end Go.Proofs.YtfkifcjjkaenhaaGreatDoor
