/- The ratio of a list of quotients: plain, of the model; areQuotients. -/
import Derived.Test.YtakghnaklimliaaNums
namespace Go.Proofs.Ytakghnaklimliaa
open Go.RowKit

def qStep (s : Option (Int × Int)) (q : Int) : Option (Int × Int) :=
  match s with
  | none => none
  | some (a, b) => if q * a + b ≤ 1000 then some (q * a + b, a) else none
def quoF (L : List Int) : Option (Int × Int) := L.foldr (fun q s => qStep s q) (some (1, 0))
def QOk (L : List Int) : Prop := L.length ≠ 0 ∧ L.length ≤ 20 ∧ (∀ q ∈ L, 1 ≤ q) ∧ (L.length = 1 ∨ 2 ≤ L.getD (L.length - 1) 0)
instance (L : List Int) : Decidable (QOk L) := by unfold QOk; infer_instance
def quoR (L : List Int) : Int × Int × Bool := if QOk L then (match quoF L with | some (a, b) => (a, b, true) | none => (0, 0, false)) else (0, 0, false)
def RetQ (w : World) (L : List Int) (e : Ending) (w' : World) : Prop := e = .returned (.tuple #[.int .i64 (quoR L).1, .int .i64 (quoR L).2.1, .bool (quoR L).2.2]) ∧ Below w.heap.size w w'
theorem quoR_no {L : List Int} (h : ¬ QOk L) : quoR L = (0, 0, false) := by unfold quoR; rw [if_neg h]
theorem quoR_none {L : List Int} (h : quoF L = none) : quoR L = (0, 0, false) := by unfold quoR; rw [h]; split <;> rfl
theorem quoR_some {L : List Int} {a b : Int} (hk : QOk L) (h : quoF L = some (a, b)) : quoR L = (a, b, true) := by unfold quoR; rw [if_pos hk, h]
theorem RetQ.no {w w' : World} {L : List Int} (h : quoR L = (0, 0, false)) (hb : Below w.heap.size w w') : RetQ w L (.returned (.tuple #[.int .i64 0, .int .i64 0, .bool false])) w' := by unfold RetQ; rw [h]; exact ⟨rfl, hb⟩
theorem RetQ.yes {w w' : World} {L : List Int} {a b : Int} (h : quoR L = (a, b, true)) (hb : Below w.heap.size w w') : RetQ w L (.returned (.tuple #[.int .i64 a, .int .i64 b, .bool true])) w' := by unfold RetQ; rw [h]; exact ⟨rfl, hb⟩
theorem quoF_cons (q : Int) (L : List Int) : quoF (q :: L) = qStep (quoF L) q := rfl
theorem quoF_dead (L M : List Int) (h : quoF M = none) : quoF (L ++ M) = none := by
  induction L with
  | nil => exact h
  | cons q L ih => rw [List.cons_append, quoF_cons, ih]; rfl
theorem quoF_drop {L : List Int} {m : Nat} (h : quoF (L.drop m) = none) : quoF L = none := by
  have := quoF_dead (L.take m) (L.drop m) h
  rwa [List.take_append_drop] at this
theorem quoF_at {L : List Int} {m : Nat} {q : Int} (h : L[m]? = some q) : quoF (L.drop m) = qStep (quoF (L.drop (m + 1))) q := by
  obtain ⟨hm, e⟩ := List.getElem?_eq_some_iff.1 h
  rw [← e, List.drop_eq_getElem_cons hm]
  rfl
theorem quoF_bnd {L : List Int} (h : ∀ q ∈ L, 1 ≤ q) {a b : Int} (he : quoF L = some (a, b)) : 1 ≤ a ∧ a ≤ 1000 ∧ 0 ≤ b ∧ b ≤ 1000 ∧ ∀ q ∈ L, q ≤ 1000 := by
  induction L generalizing a b with
  | nil => unfold quoF at he; simp at he; obtain ⟨rfl, rfl⟩ := he; exact ⟨by omega, by omega, by omega, by omega, fun q hq => by simp at hq⟩
  | cons q L ih =>
    rw [quoF_cons] at he
    cases hL : quoF L with
    | none => rw [hL] at he; cases he
    | some p =>
      obtain ⟨a', b'⟩ := p
      rw [hL] at he
      unfold qStep at he
      simp only at he
      split at he
      · rename_i hle
        simp only [Option.some.injEq, Prod.mk.injEq] at he
        obtain ⟨rfl, rfl⟩ := he
        obtain ⟨h1, h2, h3, h4, h5⟩ := ih (fun x hx => h x (List.mem_cons_of_mem _ hx)) hL
        have hq := h q List.mem_cons_self
        have hqa : q ≤ q * a' := by
          have := Int.mul_le_mul_of_nonneg_left h1 (by omega : 0 ≤ q)
          omega
        refine ⟨by omega, hle, by omega, h2, fun x hx => ?_⟩
        rcases List.mem_cons.1 hx with rfl | hx
        · omega
        · exact h5 x hx
      · cases he

set_option maxRecDepth 100000 in
set_option maxHeartbeats 2000000 in
theorem areQ_any (A : Option Addr) (n c : Nat) (L : List Int) (w : World) (hl : L.length = n) (hn : n ≤ 1048576) (hL : IntsAt w w.heap.size A L) :
    Calls Try.prog 43 #[.slice A n c] w fun e w' => e = .returned (.bool (dc (QOk L))) ∧ w' = w := by
  by_cases h0 : n = 0
  · have hno : ¬ QOk L := fun h => h.1 (by omega)
    rw [dc_false hno]
    subst h0
    go_enter Try.func43, Try.ntmps43
    go_wp2_with fail
    go_ret
    exact ⟨rfl, rfl⟩
  obtain ⟨m, rfl⟩ : ∃ m, n = m + 1 := ⟨n - 1, by omega⟩
  have e0 : ((m : Int) + 1 == 0) = false := by rw [beq_eq_false_iff_ne]; omega
  by_cases h20 : m + 1 ≤ 20
  case neg =>
    have hno : ¬ QOk L := fun h => h20 (by have := h.2.1; omega)
    rw [dc_false hno]
    have e1 : (20 : Int) < (m : Int) + 1 := by omega
    go_enter Try.func43, Try.ntmps43
    go_wp2_with fail
    go_ret
    exact ⟨rfl, rfl⟩
  have e1 : ¬ (20 : Int) < (m : Int) + 1 := by omega
  obtain ⟨z, hz⟩ : ∃ z, L[m]? = some z := ⟨_, List.getElem?_eq_getElem (by omega)⟩
  obtain ⟨b, off, rfl, hb, c0⟩ := hL m z hz
  have hcs : ∀ j, j < L.length → w.cell? ⟨b, off + j, none⟩ = some (.int .i64 (L.getD j 0)) := by
    intro j hj
    obtain ⟨b', off', e, _, cj⟩ := hL j _ (List.getElem?_eq_getElem hj)
    cases e
    rw [cj]
    simp [List.getD, List.getElem?_eq_getElem hj]
  have hM := Try.slices_Min_int b off (m + 1) c L w (by omega) (by omega) (by omega) hcs
  obtain ⟨k1, i, hi, k2⟩ := min_ind L (m + 1) (by omega) (by omega)
  obtain ⟨mn, hmn⟩ : ∃ mn, Lib.minOf (L.take (m + 1)) = mn := ⟨_, rfl⟩
  rw [hmn] at hM k1 k2
  have HM := Lib.hid hM
  have hzg : L.getD (L.length - 1) 0 = z := by rw [hl]; simp [List.getD, hz]
  have hall : (∀ q ∈ L, 1 ≤ q) ↔ 1 ≤ mn := by
    refine ⟨fun h => h _ (List.mem_of_getElem? k2), fun h q hq => ?_⟩
    obtain ⟨j, hj, rfl⟩ := List.getElem_of_mem hq
    have := k1 j _ (by omega) (List.getElem?_eq_getElem hj)
    omega
  have HK' : QOk L ↔ 1 ≤ mn ∧ (m = 0 ∨ 2 ≤ z) := by
    unfold QOk
    rw [hall, hzg, hl]
    constructor
    · rintro ⟨_, _, h3, h4⟩; exact ⟨h3, by omega⟩
    · rintro ⟨h3, h4⟩; exact ⟨by omega, by omega, h3, by omega⟩
  have HK := Lib.hid HK'
  have HC := Lib.hid c0
  clear HK' hM hmn hall hzg k1 k2 hi hcs hL hz hb hl h0 c0
  by_cases hp : 1 ≤ mn
  case neg =>
    have hno : ¬ QOk L := fun h => hp (HK.out.1 h).1
    rw [dc_false hno]
    have e2 : mn < 1 := by omega
    clear hp
    go_enter Try.func43, Try.ntmps43
    go_wp2_with (go_at_call 57; refine HM.out.mono ?_; rintro e w' ⟨rfl, rfl⟩)
    go_ret
    exact ⟨rfl, rfl⟩
  have e2 : ¬ mn < 1 := by omega
  by_cases hm : m = 0
  · subst hm
    have hyes : QOk L := HK.out.2 ⟨hp, .inl rfl⟩
    rw [dc_true hyes]
    clear hp e0 e1
    go_enter Try.func43, Try.ntmps43
    go_wp2_with (go_at_call 57; refine HM.out.mono ?_; rintro e w' ⟨rfl, rfl⟩)
    go_ret
    exact ⟨rfl, rfl⟩
  have e3 : ((m : Int) + 1 == 1) = false := by rw [beq_eq_false_iff_ne]; omega
  have i1 : (m : Int) < (m : Int) + 1 := by omega
  have i0 : (0 : Int) ≤ (m : Int) := by omega
  have c0 := HC.out
  have hd : dc (QOk L) = decide (2 ≤ z) := by
    by_cases h2 : 2 ≤ z
    · rw [dc_true (HK.out.2 ⟨hp, .inr h2⟩), decide_eq_true h2]
    · rw [dc_false (fun h => h2 ((HK.out.1 h).2.resolve_left hm)), decide_eq_false h2]
  rw [hd]
  clear hd hp HK hm
  go_enter Try.func43, Try.ntmps43
  go_wp2_with (go_at_call 57; refine HM.out.mono ?_; rintro e w' ⟨rfl, rfl⟩)
  go_ret
  exact ⟨rfl, rfl⟩
end Go.Proofs.Ytakghnaklimliaa
