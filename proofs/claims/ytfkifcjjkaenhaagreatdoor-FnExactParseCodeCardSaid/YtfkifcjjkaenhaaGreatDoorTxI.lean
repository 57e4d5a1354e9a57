/- Texts tell their cuts. -/
import Derived.Test.YtfkifcjjkaenhaaGreatDoorTx
set_option linter.all false
namespace Go.Proofs.YtfkifcjjkaenhaaGreatDoor
open Go.RowKit

/-- Is it a digit? -/
def dg (c : UInt8) : Bool := decide (48 ≤ c.toNat) && decide (c.toNat ≤ 57)
theorem dig_nat {k : Nat} (h : k < 10) : (dig k).toNat = 48 + k := by unfold dig; rw [UInt8.toNat_ofNat']; omega
theorem dg_dig {k : Nat} (h : k < 10) : dg (dig k) = true := by unfold dg; rw [dig_nat h]; simp; omega
theorem dec_dg (n : Nat) : ∀ c ∈ dec n, dg c = true := by
  induction n using Nat.strongRecOn with
  | _ n ih =>
  by_cases h : n < 10
  · rw [dec_small h]; intro c hc; rw [List.mem_singleton.1 hc]; exact dg_dig h
  · rw [dec_great h]
    intro c hc
    rcases List.mem_append.1 hc with hc | hc
    · exact ih _ (by omega) c hc
    · rw [List.mem_singleton.1 hc]; exact dg_dig (Nat.mod_lt _ (by omega))
/-- What digits tell. -/
def vl (l : List UInt8) : Nat := l.foldl (fun a c => 10 * a + (c.toNat - 48)) 0
theorem vl_snoc (l : List UInt8) (c : UInt8) : vl (l ++ [c]) = 10 * vl l + (c.toNat - 48) := by simp [vl]
theorem vl_dec (n : Nat) : vl (dec n) = n := by
  induction n using Nat.strongRecOn with
  | _ n ih =>
  by_cases h : n < 10
  · rw [dec_small h]; simp [vl, dig_nat h]
  · rw [dec_great h, vl_snoc, ih _ (by omega), dig_nat (Nat.mod_lt _ (by omega))]; omega
/-- No digit comes first. -/
def Nd (r : List UInt8) : Prop := ∀ c t, r = c :: t → dg c = false
theorem nd_nil : Nd [] := fun c t h => by cases h
theorem nd_cons {c : UInt8} (h : dg c = false) (t : List UInt8) : Nd (c :: t) := fun d u e => by cases e; exact h
theorem take_dec {l r : List UInt8} (hl : ∀ c ∈ l, dg c = true) (hr : Nd r) : (l ++ r).takeWhile dg = l ∧ (l ++ r).dropWhile dg = r := by
  induction l with
  | nil =>
    cases r with
    | nil => simp
    | cons c t => simp [hr c t rfl]
  | cons c l ih =>
    have h1 := hl c (by simp)
    have h2 := ih fun d hd => hl d (by simp [hd])
    simp [h1, h2.1, h2.2]
theorem dec_cancel {n m : Nat} {r r' : List UInt8} (hr : Nd r) (hr' : Nd r') (h : dec n ++ r = dec m ++ r') : n = m ∧ r = r' := by
  have a := take_dec (dec_dg n) hr
  have b := take_dec (dec_dg m) hr'
  rw [h] at a
  have e : dec n = dec m := a.1.symm.trans b.1
  exact ⟨by rw [← vl_dec n, e, vl_dec], a.2.symm.trans b.2⟩
theorem nd_flat (L : List Sq) : Nd (L.map txQ).flatten := by
  cases L with
  | nil => exact nd_nil
  | cons s L => simp only [List.map_cons, List.flatten_cons, txQ, List.cons_append]; exact nd_cons (by decide) _
theorem flat_inj {L M : List Sq} (hL : ∀ s ∈ L, SmS s) (hM : ∀ s ∈ M, SmS s) (h : (L.map txQ).flatten = (M.map txQ).flatten) : L = M := by
  induction L generalizing M with
  | nil =>
    cases M with
    | nil => rfl
    | cons s M => simp [txQ] at h
  | cons s L ih =>
    cases M with
    | nil => simp [txQ] at h
    | cons t M =>
      simp only [List.map_cons, List.flatten_cons, txQ, List.cons_append, List.append_assoc, List.cons.injEq, true_and] at h
      have h1 := dec_cancel (nd_cons (by decide) _) (nd_cons (by decide) _) h
      have h2 := dec_cancel (nd_cons (by decide) _) (nd_cons (by decide) _) (List.cons.inj h1.2).2
      have h3 := dec_cancel (nd_flat L) (nd_flat M) (List.cons.inj h2.2).2
      have hs := hL s (by simp)
      have ht := hM t (by simp)
      obtain ⟨a1, a2, a3⟩ := hs
      obtain ⟨b1, b2, b3⟩ := ht
      rw [ih (fun u hu => hL u (by simp [hu])) (fun u hu => hM u (by simp [hu])) h3.2]
      congr 1
      cases s; cases t
      simp only [Sq.mk.injEq] at *
      omega
theorem txC_inj {W H W' H' : Nat} {L M : List Sq} (hL : ∀ s ∈ L, SmS s) (hM : ∀ s ∈ M, SmS s) (h : txC W H L = txC W' H' M) : W = W' ∧ H = H' ∧ L = M := by
  simp only [txC, List.append_assoc, List.cons_append] at h
  have h1 := dec_cancel (nd_cons (by decide) _) (nd_cons (by decide) _) h
  have h2 := dec_cancel (nd_flat L) (nd_flat M) (List.cons.inj h1.2).2
  exact ⟨h1.1, h2.1, flat_inj hL hM h2.2⟩
end Go.Proofs.YtfkifcjjkaenhaaGreatDoor
