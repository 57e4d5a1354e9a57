/- Reading a net's text: plain. -/
import Derived.Test.YtbkfenhiaedlgaaDoorPcP
import Derived.Test.YtbkfenhiaedlgaaDoorNx
set_option linter.all false
namespace Go.Proofs.YtbkfenhiaedlgaaDoor
open Go.RowKit

/-- A wire's text, read. -/
noncomputable def wio (t : List UInt8) : Option Wi :=
  match spl 45 t with
  | [a, b] => some ⟨rdI a, rdI b⟩
  | _ => none
theorem wio_yes {t a b : List UInt8} (h : spl 45 t = [a, b]) : wio t = some ⟨rdI a, rdI b⟩ := by unfold wio; rw [h]
theorem wio_no {t : List UInt8} (h : (spl 45 t).length ≠ 2) : wio t = none := by
  unfold wio
  match hs : spl 45 t with
  | [] => rfl
  | [_] => rfl
  | [_, _] => rw [hs] at h; exact absurd rfl h
  | _ :: _ :: _ :: _ => rfl
theorem spl_wiq (s : Wi) : spl 45 (wiq s) = [dec s.a.toNat, dec s.b.toNat] := by
  unfold wiq
  rw [spl_at _ _ _ (dec_no (by decide)), spl_no _ _ (dec_no (by decide))]
theorem wio_wiq {s : Wi} (h : SmW s) : wio (wiq s) = some s := by
  obtain ⟨h1, h2⟩ := h
  rw [wio_yes (spl_wiq s), rd_dec (by omega), rd_dec (by omega)]
  congr 1
  cases s
  simp at *
  omega
noncomputable def wisOf : List (List UInt8) → Option (List Wi)
  | [] => some []
  | t :: r => match wio t, wisOf r with
    | some s, some L => some (s :: L)
    | _, _ => none
theorem wisOf_app : ∀ (R : List (List UInt8)) (t : List UInt8), wisOf (R ++ [t]) = (match wisOf R, wio t with | some L, some s => some (L ++ [s]) | _, _ => none)
  | [], t => by simp only [List.nil_append, wisOf]; cases wio t <;> rfl
  | a :: R, t => by
    simp only [List.cons_append, wisOf, wisOf_app R t]
    cases wio a <;> cases wisOf R <;> cases wio t <;> rfl
theorem wisOf_bad {R : List (List UInt8)} : ∀ {k : Nat} (_ : k ≤ R.length), wisOf (R.take k) = none → wisOf R = none := by
  induction R with
  | nil => intro k _ h; simpa using h
  | cons a R ih =>
    intro k hk h
    cases k with
    | zero => simp [wisOf] at h
    | succ k =>
      simp only [List.take_succ_cons, wisOf] at h ⊢
      cases ha : wio a with
      | none => rfl
      | some s =>
        rw [ha] at h
        cases hr : wisOf (R.take k) with
        | none => rw [ih (by simpa using hk) hr]
        | some L => rw [hr] at h; cases h
theorem wisOf_len {R : List (List UInt8)} : ∀ {L : List Wi}, wisOf R = some L → L.length = R.length := by
  induction R with
  | nil => intro L h; simp [wisOf] at h; subst h; rfl
  | cons a R ih =>
    intro L h
    simp only [wisOf] at h
    cases ha : wio a with
    | none => rw [ha] at h; cases h
    | some s =>
      cases hr : wisOf R with
      | none => rw [ha, hr] at h; cases h
      | some M => rw [ha, hr] at h; cases h; simp [ih hr]
theorem wisOf_wiq : ∀ (L : List Wi), (∀ s ∈ L, SmW s) → wisOf (L.map wiq) = some L
  | [], _ => rfl
  | s :: L, h => by simp only [List.map_cons, wisOf, wio_wiq (h s (by simp)), wisOf_wiq L (fun q hq => h q (List.mem_cons_of_mem _ hq))]
theorem mem_joinN {b : UInt8} : ∀ {xs : List (List UInt8)} {c : UInt8}, c ∈ Lib.join xs [b] → c = b ∨ ∃ x ∈ xs, c ∈ x
  | [], c, h => by simp [Lib.join] at h
  | [x], c, h => by rw [Lib.join_one] at h; exact .inr ⟨x, by simp, h⟩
  | x :: y :: r, c, h => by
    have e : Lib.join (x :: y :: r) [b] = x ++ b :: Lib.join (y :: r) [b] := by simp [Lib.join]
    rw [e] at h
    rcases List.mem_append.1 h with h | h
    · exact .inr ⟨x, by simp, h⟩
    · rcases List.mem_cons.1 h with h | h
      · exact .inl h
      · rcases mem_joinN h with h | ⟨z, hz, hc⟩
        · exact .inl h
        · exact .inr ⟨z, List.mem_cons_of_mem _ hz, hc⟩
theorem wiq_no {b : UInt8} (hb : dg b = false) (h45 : b ≠ 45) (s : Wi) : b ∉ wiq s := by
  unfold wiq
  intro h
  rcases List.mem_append.1 h with h | h
  · exact dec_no hb h
  · rcases List.mem_cons.1 h with h | h
    · exact h45 h
    · exact dec_no hb h
theorem wis_no {b : UInt8} (hb : dg b = false) (h45 : b ≠ 45) (h44 : b ≠ 44) (L : List Wi) : b ∉ Lib.join (L.map wiq) [44] := fun h => by
  rcases mem_joinN h with h | ⟨x, hx, hc⟩
  · exact h44 h
  · obtain ⟨s, _, rfl⟩ := List.mem_map.1 hx
    exact wiq_no hb h45 s hc
theorem wis_nil {L : List Wi} (h : Lib.join (L.map wiq) [44] = []) : L = [] := by
  cases L with
  | nil => rfl
  | cons s r =>
    exfalso
    rw [List.map_cons, Lib.join_cons] at h
    have := (List.append_eq_nil_iff.1 h).1
    unfold wiq at this
    simp at this
/-- The net that a text tells, if it is one. -/
noncomputable def candN (l : List UInt8) : Option (Int × List Wi) :=
  match spl 58 l with
  | [h, q] => match wisOf (spl 44 q) with
    | some L => some (rdI h, L)
    | none => none
  | _ => none
theorem candN_two {l : List UInt8} (h : (spl 58 l).length ≠ 2) : candN l = none := by
  unfold candN
  match hs : spl 58 l with
  | [] => rfl
  | [_] => rfl
  | [_, _] => rw [hs] at h; exact absurd rfl h
  | _ :: _ :: _ :: _ => rfl
theorem candN_yes {l h q : List UInt8} {L : List Wi} (hl : spl 58 l = [h, q]) (hq : wisOf (spl 44 q) = some L) : candN l = some (rdI h, L) := by
  unfold candN; rw [hl]; simp only; rw [hq]
theorem candN_wis {l h q : List UInt8} (hl : spl 58 l = [h, q]) (hq : wisOf (spl 44 q) = none) : candN l = none := by
  unfold candN; rw [hl]; simp only; rw [hq]
theorem cand_ntx {N : Int} {L : List Wi} (hG : NetG N L) : candN (ntx N.toNat L) = some (N, L) := by
  have hs := netG_sm hG
  have hN := hG.1
  have h0 : L ≠ [] := List.length_pos_iff.1 (by have := hG.2.1; omega)
  have e1 : spl 58 (ntx N.toNat L) = [dec N.toNat, Lib.join (L.map wiq) [44]] := by
    unfold ntx
    rw [spl_at _ _ _ (dec_no (by decide)), spl_no _ _ (wis_no (by decide) (by decide) (by decide) L)]
  have e2 : wisOf (spl 44 (Lib.join (L.map wiq) [44])) = some L := by
    rw [spl_join 44 _ (by simpa using h0) (fun x hx => by obtain ⟨s, _, rfl⟩ := List.mem_map.1 hx; exact wiq_no (by decide) (by decide) s), wisOf_wiq L hs]
  rw [candN_yes e1 e2, rd_dec (by omega), Int.toNat_of_nonneg (by omega)]
theorem noN_of {l : List UInt8} (h : candN l = none) : ∀ N L, NetG N L → ntx N.toNat L ≠ l := fun N L hG e => by
  have h2 := cand_ntx hG
  rw [e, h] at h2; cases h2
theorem ntx_200 {N : Int} {L : List Wi} (hG : NetG N L) : (ntx N.toNat L).length ≤ 200 := by
  have hN := hG.1
  have a := dec_len N.toNat 1 (by omega)
  have c := join_le (L.map wiq) [44] 5 (fun x hx => by
    obtain ⟨s, hsm, rfl⟩ := List.mem_map.1 hx
    have hw := hG.2.2.1 s hsm
    simp only [WOk] at hw
    have p := dec_len s.a.toNat 1 (by omega)
    have q := dec_len s.b.toNat 1 (by omega)
    unfold wiq
    simp only [List.length_append, List.length_cons]; omega)
  have hn := hG.2.1
  simp only [ntx, List.length_append, List.length_cons, List.length_map, List.length_nil] at c ⊢
  omega
theorem ntx_uniq {N N' : Int} {L M : List Wi} (hG : NetG N L) (hG' : NetG N' M) (e : ntx N.toNat L = ntx N'.toNat M) : N = N' ∧ L = M := by
  have h := cand_ntx hG
  rw [e, cand_ntx hG'] at h
  simp only [Option.some.injEq, Prod.mk.injEq] at h
  exact ⟨h.1.symm, h.2.symm⟩
end Go.Proofs.YtbkfenhiaedlgaaDoor
