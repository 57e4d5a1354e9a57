/- Reading a puzzle's text: plain. -/
import Derived.Test.YtbkfenhiaedlgaaDoorPcP
import Derived.Test.YtbkfenhiaedlgaaDoorPtx
import Derived.Test.YtbkfenhiaedlgaaDoorPty
set_option linter.all false
namespace Go.Proofs.YtbkfenhiaedlgaaDoor
open Go.RowKit

/-- A clue's text, read. -/
noncomputable def clo (t : List UInt8) : Option Sq :=
  match spl 46 t with
  | [a, b, c] => some ⟨rdI a, rdI b, rdI c⟩
  | _ => none
theorem clo_yes {t a b c : List UInt8} (h : spl 46 t = [a, b, c]) : clo t = some ⟨rdI a, rdI b, rdI c⟩ := by unfold clo; rw [h]
theorem clo_no {t : List UInt8} (h : (spl 46 t).length ≠ 3) : clo t = none := by
  unfold clo
  match hs : spl 46 t with
  | [] => rfl
  | [_] => rfl
  | [_, _] => rfl
  | [_, _, _] => rw [hs] at h; exact absurd rfl h
  | _ :: _ :: _ :: _ :: _ => rfl
theorem spl_clq (s : Sq) : spl 46 (clq s) = [dec s.x.toNat, dec s.y.toNat, dec s.d.toNat] := by
  unfold clq
  rw [spl_at _ _ _ (dec_no (by decide)), spl_at _ _ _ (dec_no (by decide)), spl_no _ _ (dec_no (by decide))]
theorem clo_clq {s : Sq} (h : SmS s) : clo (clq s) = some s := by
  obtain ⟨h1, h2, h3⟩ := h
  rw [clo_yes (spl_clq s), rd_dec (by omega), rd_dec (by omega), rd_dec (by omega)]
  congr 1
  cases s
  simp at *
  omega
noncomputable def clsOf : List (List UInt8) → Option (List Sq)
  | [] => some []
  | t :: r => match clo t, clsOf r with
    | some s, some L => some (s :: L)
    | _, _ => none
theorem clsOf_app : ∀ (R : List (List UInt8)) (t : List UInt8), clsOf (R ++ [t]) = (match clsOf R, clo t with | some L, some s => some (L ++ [s]) | _, _ => none)
  | [], t => by simp only [List.nil_append, clsOf]; cases clo t <;> rfl
  | a :: R, t => by
    simp only [List.cons_append, clsOf, clsOf_app R t]
    cases clo a <;> cases clsOf R <;> cases clo t <;> rfl
theorem clsOf_bad {R : List (List UInt8)} : ∀ {k : Nat} (_ : k ≤ R.length), clsOf (R.take k) = none → clsOf R = none := by
  induction R with
  | nil => intro k _ h; simpa using h
  | cons a R ih =>
    intro k hk h
    cases k with
    | zero => simp [clsOf] at h
    | succ k =>
      simp only [List.take_succ_cons, clsOf] at h ⊢
      cases ha : clo a with
      | none => rfl
      | some s =>
        rw [ha] at h
        cases hr : clsOf (R.take k) with
        | none => rw [ih (by simpa using hk) hr]
        | some L => rw [hr] at h; cases h
theorem clsOf_len {R : List (List UInt8)} : ∀ {L : List Sq}, clsOf R = some L → L.length = R.length := by
  induction R with
  | nil => intro L h; simp [clsOf] at h; subst h; rfl
  | cons a R ih =>
    intro L h
    simp only [clsOf] at h
    cases ha : clo a with
    | none => rw [ha] at h; cases h
    | some s =>
      cases hr : clsOf R with
      | none => rw [ha, hr] at h; cases h
      | some M => rw [ha, hr] at h; cases h; simp [ih hr]
theorem clsOf_clq : ∀ (L : List Sq), (∀ s ∈ L, SmS s) → clsOf (L.map clq) = some L
  | [], _ => rfl
  | s :: L, h => by simp only [List.map_cons, clsOf, clo_clq (h s (by simp)), clsOf_clq L (fun q hq => h q (List.mem_cons_of_mem _ hq))]
theorem mem_join {b : UInt8} : ∀ {xs : List (List UInt8)} {c : UInt8}, c ∈ Lib.join xs [b] → c = b ∨ ∃ x ∈ xs, c ∈ x
  | [], c, h => by simp [Lib.join] at h
  | [x], c, h => by rw [Lib.join_one] at h; exact .inr ⟨x, by simp, h⟩
  | x :: y :: r, c, h => by
    have e : Lib.join (x :: y :: r) [b] = x ++ b :: Lib.join (y :: r) [b] := by simp [Lib.join]
    rw [e] at h
    rcases List.mem_append.1 h with h | h
    · exact .inr ⟨x, by simp, h⟩
    · rcases List.mem_cons.1 h with h | h
      · exact .inl h
      · rcases mem_join h with h | ⟨z, hz, hc⟩
        · exact .inl h
        · exact .inr ⟨z, List.mem_cons_of_mem _ hz, hc⟩
theorem clq_no {b : UInt8} (hb : dg b = false) (h46 : b ≠ 46) (s : Sq) : b ∉ clq s := by
  unfold clq
  intro h
  rcases List.mem_append.1 h with h | h
  · exact dec_no hb h
  · rcases List.mem_cons.1 h with h | h
    · exact h46 h
    · rcases List.mem_append.1 h with h | h
      · exact dec_no hb h
      · rcases List.mem_cons.1 h with h | h
        · exact h46 h
        · exact dec_no hb h
theorem cls_no {b : UInt8} (hb : dg b = false) (h46 : b ≠ 46) (h44 : b ≠ 44) (L : List Sq) : b ∉ Lib.join (L.map clq) [44] := fun h => by
  rcases mem_join h with h | ⟨x, hx, hc⟩
  · exact h44 h
  · obtain ⟨s, _, rfl⟩ := List.mem_map.1 hx
    exact clq_no hb h46 s hc
theorem cls_nil {L : List Sq} (h : Lib.join (L.map clq) [44] = []) : L = [] := by
  cases L with
  | nil => rfl
  | cons s r =>
    exfalso
    rw [List.map_cons, Lib.join_cons] at h
    have := (List.append_eq_nil_iff.1 h).1
    unfold clq at this
    simp at this
theorem ptx_form (W H : Nat) (L : List Sq) : ptx W H L = (dec W ++ 120 :: dec H) ++ 58 :: Lib.join (L.map clq) [44] := by simp [ptx]
theorem head_no58 (W H : Nat) : (58 : UInt8) ∉ dec W ++ 120 :: dec H := by
  intro h
  rcases List.mem_append.1 h with h | h
  · exact dec_no (by decide) h
  · rcases List.mem_cons.1 h with h | h
    · cases h
    · exact dec_no (by decide) h
/-- The clues that the text behind the mark tells. -/
noncomputable def clsQ (q : List UInt8) : Option (List Sq) := if q = [] then some [] else clsOf (spl 44 q)
theorem clsQ_join {L : List Sq} (hs : ∀ s ∈ L, SmS s) : clsQ (Lib.join (L.map clq) [44]) = some L := by
  unfold clsQ
  by_cases h : Lib.join (L.map clq) [44] = []
  · rw [if_pos h, cls_nil h]
  · rw [if_neg h, spl_join 44 _ (fun e => h (by rw [e]; rfl)) (fun x hx => by obtain ⟨s, _, rfl⟩ := List.mem_map.1 hx; exact clq_no (by decide) (by decide) s), clsOf_clq L hs]
/-- The puzzle that a text tells, if it is one. -/
noncomputable def candP (l : List UInt8) : Option (Int × Int × List Sq) :=
  match spl 58 l with
  | [h, q] => match spl 120 h, clsQ q with
    | [a, b], some L => some (rdI a, rdI b, L)
    | _, _ => none
  | _ => none
theorem cand_ptx {W H : Int} {L : List Sq} (hG : GoodP W H L) : candP (ptx W.toNat H.toNat L) = some (W, H, L) := by
  have hs := goodP_sm hG
  have hz := hG.size
  unfold candP
  rw [ptx_form, spl_at _ _ _ (head_no58 _ _), spl_no _ _ (cls_no (by decide) (by decide) (by decide) L)]
  simp only
  rw [spl_at _ _ _ (dec_no (by decide)), spl_no _ _ (dec_no (by decide)), clsQ_join hs]
  simp only
  rw [rd_dec (by omega), rd_dec (by omega), Int.toNat_of_nonneg (by omega), Int.toNat_of_nonneg (by omega)]
theorem clq_len7 {N : Int} (hN : N ≤ 12) {s : Sq} (h : ClueOk N s) : (clq s).length ≤ 7 := by
  have hc := clueOk_iff.1 h
  have h2 : (0 ≤ s.x ∧ s.x ≤ 9) ∧ (0 ≤ s.y ∧ s.y ≤ 99) ∧ (0 ≤ s.d ∧ s.d ≤ 99) := by
    unfold spA spB at hc
    rcases kinds s.x with e | e | e | e | e | e | ⟨_, _, _, _, _, _, e⟩
    all_goals (first | (simp only [e] at hc; simp at hc; omega) | omega)
  have a := dec_len s.x.toNat 0 (by omega)
  have b := dec_len s.y.toNat 1 (by omega)
  have c := dec_len s.d.toNat 1 (by omega)
  unfold clq
  simp only [List.length_cons, List.length_append]
  omega
theorem ptx_100 {W H : Int} {L : List Sq} (hG : GoodP W H L) : (ptx W.toNat H.toNat L).length ≤ 100 := by
  have hz := hG.size
  have a := dec_len W.toNat 0 (by omega)
  have b := dec_len H.toNat 0 (by omega)
  have c := join_le (L.map clq) [44] 7 (fun x hx => by obtain ⟨s, hsm, rfl⟩ := List.mem_map.1 hx; exact clq_len7 hz.2.2 (hG.2.2 s hsm))
  have hn := hG.2.1
  simp only [ptx, List.length_append, List.length_cons, List.length_map, List.length_nil] at c ⊢
  omega
theorem ptx_uniq {W H W' H' : Int} {L M : List Sq} (hG : GoodP W H L) (hG' : GoodP W' H' M) (e : ptx W.toNat H.toNat L = ptx W'.toNat H'.toNat M) : W = W' ∧ H = H' ∧ L = M := by
  have h := cand_ptx hG
  rw [e, cand_ptx hG'] at h
  simp only [Option.some.injEq, Prod.mk.injEq] at h
  exact ⟨h.1.symm, h.2.1.symm, h.2.2.symm⟩
end Go.Proofs.YtbkfenhiaedlgaaDoor
