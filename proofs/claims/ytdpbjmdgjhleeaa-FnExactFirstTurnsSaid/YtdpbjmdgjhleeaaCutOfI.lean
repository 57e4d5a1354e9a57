/- Contract of the program's CutOf. -/
import Derived.Test.YtdpbjmdgjhleeaaMake
set_option linter.all false
namespace Go.Proofs.Ytdpbjmdgjhleeaa
open Go.RowKit

theorem src_sqs {w : World} {B : Nat} {A : Option Addr} {n c : Nat} {L : List Sq} (hl : L.length = n) (hL : SqsAt w B A L) (hA : A = none → n = 0 ∧ c = 0) : Src w A n c (flat L) := by
  cases A with
  | none =>
    obtain ⟨rfl, rfl⟩ := hA rfl
    have : L = [] := List.eq_nil_of_length_eq_zero hl
    subst this
    exact .inl ⟨rfl, rfl, rfl, rfl⟩
  | some ad =>
    refine .inr ⟨ad, rfl, fun j u hu => ?_⟩
    have hj : j < L.length * 3 := by have := (List.getElem?_eq_some_iff.1 hu).1; rwa [flat_len] at this
    obtain ⟨s, hs⟩ : ∃ s, L[j / 3]? = some s := ⟨_, List.getElem?_eq_getElem (by omega)⟩
    obtain ⟨b, off, e, _, c0, c1, c2⟩ := hL (j / 3) s hs
    have f := flat_get L (j / 3) s hs
    cases e
    rw [add_at]
    rcases (by omega : j % 3 = 0 ∨ j % 3 = 1 ∨ j % 3 = 2) with h | h | h
    · rw [show j = j / 3 * 3 by omega] at hu ⊢
      rw [f.1] at hu
      rw [← hu]; exact c0
    · rw [show j = j / 3 * 3 + 1 by omega] at hu ⊢
      rw [f.2.1] at hu
      rw [← hu]; exact c1
    · rw [show j = j / 3 * 3 + 2 by omega] at hu ⊢
      rw [f.2.2] at hu
      rw [← hu]; exact c2
theorem clone_any (A : Option Addr) (n c : Nat) (L : List Sq) (w : World) (hl : L.length = n) (hn : n ≤ 30) (hA : A = none → n = 0 ∧ c = 0) (hL : SqsAt w w.heap.size A L) :
    Calls Try.prog 178 #[.slice A n c] w fun e w' => ∃ A' c', e = .returned (.slice A' n c') ∧ w'.ownsRow w.heap.size 85 3 (.slice A' n c') n (flat L) ∧ Below w.heap.size w w' := by
  have q : ∀ (w : World) (a : Option Addr) (n c n' c' : Nat), (binOp .eql 26 (.slice a n c) (.slice none n' c')).run Try.prog w = .ok (.bool a.isNone) w := fun w a n c n' c' => Lib.run_eql_slice_nil w _ _ a n c n' c' Try.underlying26
  have hsrc := src_sqs hl hL hA
  cases A with
  | none =>
    obtain ⟨rfl, rfl⟩ := hA rfl
    have : L = [] := List.eq_nil_of_length_eq_zero hl
    subst this
    go_enter Try.func178, Try.ntmps178
    go_wp2
    go_ret
    exact ⟨none, 0, rfl, World.ownsRow_nil _ _ _ _, Below.refl _ _⟩
  | some ad =>
    obtain ⟨i0, hi, hz0, hz1, hz2⟩ := info_parts infoSq
    have hsrc' : ∀ o, Src (w.alloc o) (some ad) n c (flat L) := by
      intro o
      rcases hsrc with ⟨h, _⟩ | ⟨ad', h, hc⟩
      · cases h
      · refine .inr ⟨ad', h, fun j u hu => ?_⟩
        have h1 := hc j u hu
        rw [World.cell?_alloc_lt w o _ (World.block_lt_of_cell? _ _ h1)]
        exact h1
    have hfl : (flat L).length = n * 3 := by rw [flat_len, hl]
    have HFL := Lib.hid hfl
    clear hfl hsrc hL hl hA
    go_enter Try.func178, Try.ntmps178
    go_wp2_with (at_builtin; refine app_list rfl _ _ _ rfl w.heap.size 85 i0 (.agg #[.int .i64 0, .int .i64 0, .int .i64 0]) 3 24 Try.underlying26 hi hz0 hz1 hz2 rfl (by decide) (.slice (some ⟨w.heap.size, 0, none⟩) 0 0) 0 [] rfl (World.ownsRow_lit w #[] 0 (Nat.le_refl _) (Nat.zero_le _) rfl) (some ad) n c (flat L) rfl HFL.out (hsrc' _) (flat_one _) (app_room (Nat.zero_le _) hn).1 (app_room (Nat.zero_le _) hn).2 (by simp) ?_; intro v' w1 hown hgr _; have hb : Below w.heap.size w w1 := ((Below.refl _ w).alloc (Nat.le_refl _) _).grown hgr (by simp) (fun kk hkk => by simp [Value.ownBlock] at hkk; omega))
    go_ret
    simp only [Nat.zero_add, List.nil_append] at hown
    obtain ⟨A', c', rfl⟩ := own_val hown
    exact ⟨A', c', rfl, hown, hb⟩

end Go.Proofs.Ytdpbjmdgjhleeaa
