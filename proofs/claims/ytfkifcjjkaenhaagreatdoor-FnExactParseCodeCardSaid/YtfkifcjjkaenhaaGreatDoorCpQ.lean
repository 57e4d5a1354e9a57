/- Which text is a code's: plain. -/
import Derived.Test.YtfkifcjjkaenhaaGreatDoorCpP
set_option linter.all false
namespace Go.Proofs.YtfkifcjjkaenhaaGreatDoor
open Go.RowKit

/-- A code. -/
def CdG (M : List (List Int)) : Prop := (codeR M).2.2.2 = true
theorem cdG_parts {M : List (List Int)} (h : CdG M) : (1 ≤ M.length ∧ M.length ≤ 30) ∧ M.flatten.length ≤ 30 ∧ ∀ l ∈ M, (1 ≤ l.length ∧ l.length ≤ 30) ∧ ∀ s ∈ l, 1 ≤ s ∧ s ≤ 500 :=
  Classical.byContradiction fun h3 => by
    unfold CdG at h
    rw [codeR_bad h3] at h
    cases h
theorem cdG_sm {M : List (List Int)} (h : CdG M) : ∀ g ∈ M, g ≠ [] ∧ Sm g := fun g hg => by
  obtain ⟨_, _, h3⟩ := cdG_parts h
  obtain ⟨h4, h5⟩ := h3 g hg
  exact ⟨List.length_pos_iff.1 (by omega), h4.2, fun s hs => by have := h5 s hs; omega⟩
theorem cdG_ne {M : List (List Int)} (h : CdG M) : M ≠ [] := List.length_pos_iff.1 (by have := (cdG_parts h).1; omega)
theorem gpt_len : ∀ {g : List Int}, (∀ s ∈ g, 1 ≤ s ∧ s ≤ 500) → g ≠ [] → (gpt g).length ≤ 4 * g.length := fun {g} h h0 => by
  have key : ∀ xs : List Int, (∀ s ∈ xs, 1 ≤ s ∧ s ≤ 500) → xs ≠ [] → (Lib.join (dcs xs) [44]).length + 1 ≤ 4 * xs.length := by
    intro xs
    induction xs with
    | nil => intro _ h; exact absurd rfl h
    | cons s r ih =>
      intro hx _
      have h1 := dec_len s.toNat 2 (by have := hx s (by simp); omega)
      cases hr : r with
      | nil => simp [dcs, Lib.join_one]; omega
      | cons a b =>
        have e : Lib.join (dcs (s :: a :: b)) [44] = dec s.toNat ++ 44 :: Lib.join (dcs (a :: b)) [44] := by simp [Lib.join, dcs]
        have h2 := ih (fun q hq => hx q (List.mem_cons_of_mem _ hq)) (by rw [hr]; simp)
        rw [hr] at h2
        rw [e]
        simp only [List.length_append, List.length_cons] at h2 ⊢
        omega
  have := key g h h0
  unfold gpt
  simp only [List.length_cons]; omega
theorem cdt_150 {M : List (List Int)} (h : CdG M) : (cdt M).length ≤ 150 := by
  obtain ⟨h1, h2, h3⟩ := cdG_parts h
  have key : ∀ N : List (List Int), (∀ l ∈ N, (1 ≤ l.length ∧ l.length ≤ 30) ∧ ∀ s ∈ l, 1 ≤ s ∧ s ≤ 500) → (cdt N).length ≤ N.length + 4 * N.flatten.length := by
    intro N
    induction N with
    | nil => intro _; simp [cdt]
    | cons g N ih =>
      intro hN
      have a := ih fun l hl => hN l (List.mem_cons_of_mem _ hl)
      obtain ⟨b, c⟩ := hN g (by simp)
      have d := gpt_len c (List.length_pos_iff.1 (by omega))
      have e : (grt g).length = (gpt g).length + 1 := by simp [grt, gpt]
      have f : cdt (g :: N) = grt g ++ cdt N := by simp [cdt]
      rw [f]
      simp only [List.length_append, List.length_cons, List.flatten_cons] at a ⊢
      omega
  have := key M h3
  omega
theorem cdt_3 {M : List (List Int)} (h : CdG M) : 3 ≤ (cdt M).length := by
  have h0 := cdG_ne h
  cases M with
  | nil => exact absurd rfl h0
  | cons g N =>
    have h1 := (cdG_sm h g (by simp)).1
    have f : cdt (g :: N) = grt g ++ cdt N := by simp [cdt]
    have h2 : 1 ≤ (Lib.join (dcs g) [44]).length := by
      cases g with
      | nil => exact absurd rfl h1
      | cons s r =>
        have hd := List.length_pos_iff.2 (dec_ne s.toNat)
        have e : dcs (s :: r) = dec s.toNat :: dcs r := rfl
        rw [e, Lib.join_cons, List.length_append]; omega
    rw [f]
    simp only [grt, List.length_append, List.length_cons, List.length_nil]
    omega
/-- The code that the text before the last closing tells. -/
noncomputable def candD (l' : List UInt8) : Option (List (List Int)) := gpsOf (spl 41 l')
theorem candD_cdt {M : List (List Int)} {l' : List UInt8} (h : CdG M) (e : cdt M = l' ++ [41]) : candD l' = some M := by
  rw [cdt_join (cdG_ne h)] at e
  have e2 : Lib.join (M.map gpt) [41] = l' := by simpa using e
  unfold candD
  rw [← e2, spl_cdt (cdG_ne h), gpsOf_gpt M (cdG_sm h)]
theorem cdt_candD {M : List (List Int)} {l' : List UInt8} (h : CdG M) (e : candD l' = some M) : cdt M = l' ++ [41] := by
  have h3 := (cdG_parts h).2.2
  have e2 := gpsOf_inv e (fun g hg s hs => by have := (h3 g hg).2 s hs; omega)
  rw [cdt_join (cdG_ne h), ← e2, join_spl]
theorem cdt_uniq {M N : List (List Int)} (h : CdG M) (h' : CdG N) (e : cdt M = cdt N) : M = N := by
  have a := candD_cdt h (cdt_join (cdG_ne h))
  have b := candD_cdt h' ((e.symm).trans (cdt_join (cdG_ne h)))
  rw [a] at b
  exact Option.some.inj b
theorem cdt_last {M : List (List Int)} (h : CdG M) : ∃ l', cdt M = l' ++ [41] := ⟨_, cdt_join (cdG_ne h)⟩
/-- The program's view: an opening, groups with a mark of two bytes between them, a closing. -/
theorem cdt_open {M : List (List Int)} (h : M ≠ []) : cdt M = 40 :: (Lib.join (M.map fun g => Lib.join (dcs g) [44]) [41, 40] ++ [41]) := by
  induction M with
  | nil => exact absurd rfl h
  | cons g N ih =>
    cases N with
    | nil => simp [cdt, grt, Lib.join_one]
    | cons k N =>
      have ih := ih (by simp)
      have f : cdt (g :: k :: N) = grt g ++ cdt (k :: N) := by simp [cdt]
      have e : Lib.join ((g :: k :: N).map fun g => Lib.join (dcs g) [44]) [41, 40] = Lib.join (dcs g) [44] ++ 41 :: 40 :: Lib.join ((k :: N).map fun g => Lib.join (dcs g) [44]) [41, 40] := by simp [Lib.join]
      rw [f, ih, e]; simp [grt]
theorem grj_no (g : List Int) : (41 : UInt8) ∉ Lib.join (dcs g) [44] := fun h => gpt_no g (by unfold gpt; exact List.mem_cons_of_mem _ h)
theorem code_fields {M : List (List Int)} (h : CdG M) : Lib.splitN (Lib.join (M.map fun g => Lib.join (dcs g) [44]) [41, 40]) [41, 40] 30 = M.map fun g => Lib.join (dcs g) [44] := by
  have hp := cdG_parts h
  have hn := hp.1
  have hl : (M.map fun g => Lib.join (dcs g) [44]).length ≤ (Lib.join (M.map fun g => Lib.join (dcs g) [44]) [41, 40]).length + 1 := by
    cases M with
    | nil => simp
    | cons g N => rw [List.map_cons, Lib.join_length]; simp; omega
  refine splitK2_of 41 40 _ (by simpa using cdG_ne h) (fun x hx => by obtain ⟨g, _, rfl⟩ := List.mem_map.1 hx; exact grj_no g) _ ?_
  rw [List.length_map] at hl ⊢
  omega
theorem cnt_join (c : UInt8) : ∀ (xs : List (List UInt8)), xs ≠ [] → (∀ x ∈ xs, c ∉ x) → (Lib.join xs [c]).count c + 1 = xs.length
  | [], h, _ => absurd rfl h
  | [x], _, h => by rw [Lib.join_one, List.count_eq_zero.2 (h x (by simp))]; rfl
  | x :: y :: r, _, h => by
    have e : Lib.join (x :: y :: r) [c] = x ++ c :: Lib.join (y :: r) [c] := by simp [Lib.join]
    have ih := cnt_join c (y :: r) (by simp) (fun z hz => h z (List.mem_cons_of_mem _ hz))
    rw [e, List.count_append, List.count_eq_zero.2 (h x (by simp)), List.count_cons_self]
    simp only [List.length_cons] at ih ⊢
    omega
end Go.Proofs.YtfkifcjjkaenhaaGreatDoor
