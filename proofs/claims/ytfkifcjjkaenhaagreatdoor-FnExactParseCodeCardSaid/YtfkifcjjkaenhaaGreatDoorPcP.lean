/- Reading a cut's text: plain. -/
import Derived.Test.YtfkifcjjkaenhaaGreatDoorSp
import Derived.Test.YtfkifcjjkaenhaaGreatDoorCt
set_option linter.all false
namespace Go.Proofs.YtfkifcjjkaenhaaGreatDoor
open Go.RowKit

theorem rdF_vl (l : List UInt8) : rdF l = vl l := rfl
theorem dec_ne (n : Nat) : dec n ≠ [] := by
  by_cases h : n < 10
  · rw [dec_small h]; simp
  · rw [dec_great h]; simp
/-- No leading nought. -/
theorem dec_head (n : Nat) : 1 ≤ n → (dec n)[0]? ≠ some 48 := by
  induction n using Nat.strongRecOn with
  | _ n ih =>
  intro hn
  by_cases h : n < 10
  · rw [dec_small h]
    intro e
    have e2 : dig n = 48 := by simpa using e
    have e3 := congrArg UInt8.toNat e2
    rw [dig_nat h] at e3
    have : (48 : UInt8).toNat = 48 := rfl
    omega
  · rw [dec_great h]
    intro e
    have hne := dec_ne (n / 10)
    rw [List.getElem?_append_left (List.length_pos_iff.2 hne)] at e
    exact ih (n / 10) (by omega) (by omega) e
theorem dec_lead (n : Nat) : ¬ ((dec n)[0]? = some 48 ∧ 1 < (dec n).length) := by
  intro ⟨h, h2⟩
  by_cases hn : 1 ≤ n
  · exact dec_head n hn h
  · obtain rfl : n = 0 := by omega
    rw [dec_small (by omega)] at h2
    simp at h2
theorem rd_dec {n : Nat} (h : n < 1000000) : rdI (dec n) = n := by
  have hg : rdG (dec n) := by
    refine ⟨List.length_pos_iff.2 (dec_ne n), dec_len n 5 (by omega), dec_lead n, fun c hc => ?_⟩
    have := dec_dg n c hc
    unfold dg at this
    simpa using this
  rw [rdI_yes hg, rdF_vl, vl_dec]
theorem dec_no {n : Nat} {b : UInt8} (hb : dg b = false) : b ∉ dec n := fun h => by rw [dec_dg n b h] at hb; cases hb
/-- A square's text, read. -/
noncomputable def sqo (t : List UInt8) : Option Sq :=
  match spl 44 t with
  | [a, b, c] => some ⟨rdI a, rdI b, rdI c⟩
  | _ => none
theorem sqo_yes {t a b c : List UInt8} (h : spl 44 t = [a, b, c]) : sqo t = some ⟨rdI a, rdI b, rdI c⟩ := by unfold sqo; rw [h]
theorem sqo_no {t : List UInt8} (h : (spl 44 t).length ≠ 3) : sqo t = none := by
  unfold sqo
  match hs : spl 44 t with
  | [] => rfl
  | [_] => rfl
  | [_, _] => rfl
  | [_, _, _] => rw [hs] at h; exact absurd rfl h
  | _ :: _ :: _ :: _ :: _ => rfl
theorem spl_sqt (s : Sq) : spl 44 (sqt s) = [dec s.x.toNat, dec s.y.toNat, dec s.d.toNat] := by
  unfold sqt
  rw [spl_at _ _ _ (dec_no (by decide)), spl_at _ _ _ (dec_no (by decide)), spl_no _ _ (dec_no (by decide))]
theorem sqo_sqt {s : Sq} (h : SmS s) : sqo (sqt s) = some s := by
  obtain ⟨h1, h2, h3⟩ := h
  rw [sqo_yes (spl_sqt s), rd_dec (by omega), rd_dec (by omega), rd_dec (by omega)]
  congr 1
  cases s
  simp at *
  omega
/-- The squares that texts tell, as far as each tells one. -/
noncomputable def sqsOf : List (List UInt8) → Option (List Sq)
  | [] => some []
  | t :: r => match sqo t, sqsOf r with
    | some s, some L => some (s :: L)
    | _, _ => none
theorem sqsOf_app : ∀ (R : List (List UInt8)) (t : List UInt8), sqsOf (R ++ [t]) = (match sqsOf R, sqo t with | some L, some s => some (L ++ [s]) | _, _ => none)
  | [], t => by simp only [List.nil_append, sqsOf]; cases sqo t <;> rfl
  | a :: R, t => by
    simp only [List.cons_append, sqsOf, sqsOf_app R t]
    cases sqo a <;> cases sqsOf R <;> cases sqo t <;> rfl
theorem sqsOf_bad {R : List (List UInt8)} : ∀ {k : Nat} (_ : k ≤ R.length), sqsOf (R.take k) = none → sqsOf R = none := by
  induction R with
  | nil => intro k _ h; simpa using h
  | cons a R ih =>
    intro k hk h
    cases k with
    | zero => simp [sqsOf] at h
    | succ k =>
      simp only [List.take_succ_cons, sqsOf] at h ⊢
      cases ha : sqo a with
      | none => rfl
      | some s =>
        rw [ha] at h
        cases hr : sqsOf (R.take k) with
        | none => rw [ih (by simpa using hk) hr]
        | some L => rw [hr] at h; cases h
theorem sqsOf_len {R : List (List UInt8)} : ∀ {L : List Sq}, sqsOf R = some L → L.length = R.length := by
  induction R with
  | nil => intro L h; simp [sqsOf] at h; subst h; rfl
  | cons a R ih =>
    intro L h
    simp only [sqsOf] at h
    cases ha : sqo a with
    | none => rw [ha] at h; cases h
    | some s =>
      cases hr : sqsOf R with
      | none => rw [ha, hr] at h; cases h
      | some M => rw [ha, hr] at h; cases h; simp [ih hr]
theorem sqsOf_sqt : ∀ (L : List Sq), (∀ s ∈ L, SmS s) → sqsOf (L.map sqt) = some L
  | [], _ => rfl
  | s :: L, h => by simp only [List.map_cons, sqsOf, sqo_sqt (h s (by simp)), sqsOf_sqt L (fun q hq => h q (List.mem_cons_of_mem _ hq))]
/-- The cut that a text tells, if it is one. -/
noncomputable def cand (l : List UInt8) : Option (Int × Int × List Sq) :=
  match spl 59 l with
  | [] => none
  | h :: T => match spl 120 h, sqsOf T with
    | [a, b], some L => some (rdI a, rdI b, L)
    | _, _ => none
theorem sqt_no (s : Sq) : (59 : UInt8) ∉ sqt s := by
  unfold sqt
  intro h
  rcases List.mem_append.1 h with h | h
  · exact dec_no (by decide) h
  · rcases List.mem_cons.1 h with h | h
    · cases h
    · rcases List.mem_append.1 h with h | h
      · exact dec_no (by decide) h
      · rcases List.mem_cons.1 h with h | h
        · cases h
        · exact dec_no (by decide) h
theorem head_no (W H : Nat) : (59 : UInt8) ∉ dec W ++ 120 :: dec H := by
  intro h
  rcases List.mem_append.1 h with h | h
  · exact dec_no (by decide) h
  · rcases List.mem_cons.1 h with h | h
    · cases h
    · exact dec_no (by decide) h
theorem cand_tx {W H : Int} {L : List Sq} (hG : Good W H L) : cand (txC W.toNat H.toNat L) = some (W, H, L) := by
  have hs := good_sm hG
  have hW := hG.1
  have hH := hG.2.1
  have e : txC W.toNat H.toNat L = Lib.join ((dec W.toNat ++ 120 :: dec H.toNat) :: L.map sqt) [59] := by rw [join_ct]; rfl
  have e2 : spl 59 (txC W.toNat H.toNat L) = (dec W.toNat ++ 120 :: dec H.toNat) :: L.map sqt := by
    rw [e, spl_join _ _ (by simp)]
    intro l hl
    rcases List.mem_cons.1 hl with rfl | hl
    · exact head_no _ _
    · obtain ⟨s, _, rfl⟩ := List.mem_map.1 hl; exact sqt_no s
  unfold cand
  rw [e2]
  simp only
  rw [spl_at _ _ _ (dec_no (by decide)), spl_no _ _ (dec_no (by decide)), sqsOf_sqt L hs]
  simp only
  rw [rd_dec (by omega), rd_dec (by omega), Int.toNat_of_nonneg (by omega), Int.toNat_of_nonneg (by omega)]
theorem txQ_len12 {s : Sq} (h1 : s.x ≤ 999) (h2 : s.y ≤ 999) (h3 : s.d ≤ 999) : (txQ s).length ≤ 12 := by
  have a := dec_len s.x.toNat 2 (by omega)
  have b := dec_len s.y.toNat 2 (by omega)
  have c := dec_len s.d.toNat 2 (by omega)
  unfold txQ
  simp only [List.length_cons, List.length_append]
  omega
theorem txC_400 {W H : Int} {L : List Sq} (hG : Good W H L) : (txC W.toNat H.toNat L).length ≤ 400 := by
  obtain ⟨hW, hH, hn, hok, _⟩ := hG
  have a := dec_len W.toNat 2 (by omega)
  have b := dec_len H.toNat 2 (by omega)
  have key : ∀ M : List Sq, (∀ s ∈ M, s.x ≤ 999 ∧ s.y ≤ 999 ∧ s.d ≤ 999) → (M.map txQ).flatten.length ≤ 12 * M.length := by
    intro M
    induction M with
    | nil => intro _; simp
    | cons s M ih =>
      intro h
      have h1 := h s (by simp)
      have h2 := ih fun q hq => h q (List.mem_cons_of_mem _ hq)
      have h3 := txQ_len12 h1.1 h1.2.1 h1.2.2
      simp only [List.map_cons, List.flatten_cons, List.length_append, List.length_cons]
      omega
  have k := key L fun s hs => by
    obtain ⟨j, hj⟩ := List.mem_iff_getElem?.1 hs
    have := hok j s hj
    simp only [OkS, Within] at *
    omega
  unfold txC
  simp only [List.length_append, List.length_cons]
  omega
end Go.Proofs.YtfkifcjjkaenhaaGreatDoor
