/- Contracts of the laws' marking, of reading marks back, and of comparing lists of numbers. -/
import Derived.Test.YtebnekicbcdnaaaConv2
set_option linter.all false
namespace Go.Proofs.Ytebnekicbcdnaaa
open Go.RowKit

def ints (L : List Int) : List Value := L.map (Value.int .i64)
theorem ints_len (L : List Int) : (ints L).length = L.length := by simp [ints]
/-- The numbers k, k + 1, .. -/
def upI (k : Int) (n : Nat) : List Int := (List.range n).map fun (i : Nat) => k + (i : Int)
theorem upI_len (k : Int) (n : Nat) : (upI k n).length = n := by simp [upI]
theorem upI_get (k : Int) (n i : Nat) (h : i < n) : (upI k n)[i]? = some (k + i) := by simp [upI, h]
theorem upI_succ (k : Int) (n : Nat) : upI k (n + 1) = upI k n ++ [k + n] := by simp [upI, List.range_succ]
def upS (k : Int) (n : Nat) : List Sq := (List.range n).map fun (i : Nat) => ⟨k + 3 * (i : Int), k + 3 * (i : Int) + 1, k + 3 * (i : Int) + 1 + 1⟩
theorem upS_len (k : Int) (n : Nat) : (upS k n).length = n := by simp [upS]
theorem upS_get (k : Int) (n i : Nat) (h : i < n) : (upS k n)[i]? = some ⟨k + 3 * i, k + 3 * i + 1, k + 3 * i + 1 + 1⟩ := by simp [upS, h]
theorem upS_succ (k : Int) (n : Nat) : upS k (n + 1) = upS k n ++ [⟨k + 3 * n, k + 3 * n + 1, k + 3 * n + 1 + 1⟩] := by simp [upS, List.range_succ]

def IntsAt (w : World) (B : Nat) (A : Option Addr) (L : List Int) : Prop :=
  ∀ i z, L[i]? = some z → ∃ b off, A = some ⟨b, off, none⟩ ∧ b < B ∧ w.cell? ⟨b, off + i, none⟩ = some (.int .i64 z)
theorem IntsAt.below {w w' : World} {B : Nat} {A : Option Addr} {L : List Int} (h : IntsAt w B A L) (hb : Below B w w') : IntsAt w' B A L := by
  intro i s hs
  obtain ⟨b, off, e, hB, c0⟩ := h i s hs
  exact ⟨b, off, e, hB, (hb.cell (p := ⟨b, _, none⟩) hB).trans c0⟩
theorem IntsAt.mono {w : World} {B B' : Nat} {A : Option Addr} {L : List Int} (h : IntsAt w B A L) (hB : B ≤ B') : IntsAt w B' A L := by
  intro i s hs
  obtain ⟨b, off, e, hb, r⟩ := h i s hs
  exact ⟨b, off, e, by omega, r⟩
theorem ints_of_own {w : World} {base : Nat} {A : Option Addr} {n c : Nat} {L : List Int} (h : w.ownsRow base 3 1 (.slice A n c) n (ints L)) : IntsAt w w.heap.size A L := by
  intro i z hz
  have hl : n = L.length := by have := h.1; rw [ints_len] at this; omega
  have hi : i < L.length := (List.getElem?_eq_some_iff.1 hz).1
  rcases h.2 with ⟨hn, hn0⟩ | ⟨g, cap, cur, he, _⟩
  · omega
  · cases he
    refine ⟨g, 0, rfl, (own_lt h).2, ?_⟩
    rw [Nat.zero_add, h.cellAt i (by omega)]
    simp [ints, hz]
theorem own_form {w : World} {base : Nat} {e : TypeId} {size n c : Nat} {A : Option Addr} {xs : List Value} (h : w.ownsRow base e size (.slice A n c) n xs) (hn : 0 < n) : ∃ g, A = some ⟨g, 0, none⟩ := by
  rcases h.2 with ⟨_, h0⟩ | ⟨g, cap, cur, he, _⟩
  · omega
  · cases he; exact ⟨g, rfl⟩
theorem own_far {w w' : World} {base : Nat} {e : TypeId} {size n : Nat} {v : Value} {xs : List Value} {row : Option Nat} (h : w.ownsRow base e size v n xs) (hg : w.grownBy w' row) (hne : ∀ k, v.ownBlock = some k → row ≠ some k) : w'.ownsRow base e size v n xs :=
  h.kept hg (by
    cases hv : v.ownBlock with
    | none => exact .inl rfl
    | some k => exact .inr fun e => hne k hv e.symm)
theorem own_cap {w : World} {base : Nat} {e : TypeId} {size n c : Nat} {A : Option Addr} {xs : List Value} (h : w.ownsRow base e size (.slice A n c) n xs) : n ≤ c := by
  rcases h.2 with ⟨hv, h0⟩ | ⟨g, cap, cur, he, _, _, hc, _⟩
  · omega
  · cases he; exact hc
theorem grown_of_below {w w' : World} (h : Below w.heap.size w w') (row : Option Nat) : w.grownBy w' row := ⟨h.os, h.tape, h.output, h.size, fun k hk _ => h.block k hk⟩
theorem grown_refl (w : World) (row : Option Nat) : w.grownBy w row := ⟨rfl, rfl, rfl, Nat.le_refl _, fun _ _ _ => rfl⟩
theorem grown_trans {a b c : World} {row : Option Nat} (h : a.grownBy b row) (k : b.grownBy c row) : a.grownBy c row :=
  ⟨k.os.trans h.os, k.tape.trans h.tape, k.output.trans h.output, Nat.le_trans h.size k.size, fun i hi hr => (k.block i (Nat.lt_of_lt_of_le hi h.size) hr).trans (h.block i hi hr)⟩
theorem below_of_grown {w w' : World} {row : Option Nat} {B : Nat} (h : w.grownBy w' row) (hB : B ≤ w.heap.size) (hr : ∀ k, row = some k → B ≤ k) : Below B w w' := (Below.refl B w).grown h hB hr

theorem eqIntS_same (A A' : Option Addr) (n c c' : Nat) (L : List Int) (w : World) (hl : L.length = n) (hn : n ≤ 1048576) (_hc : n ≤ c) (_hc' : n ≤ c') (hL : IntsAt w w.heap.size A L) (hL' : IntsAt w w.heap.size A' L) :
    Calls Try.prog 19 #[.slice A n c, .slice A' n c'] w fun e w' => e = .returned (.bool true) ∧ Below w.heap.size w w' := by
  go_enter Try.func19, Try.ntmps19
  go_wp2_with fail
  obtain ⟨g, hg⟩ : ∃ g, g = w.heap.size := ⟨_, rfl⟩
  rw [← hg] at hL hL'
  have hBg := Lib.hid hg
  clear hg
  go_loopw [5] (fun i wr => ∃ k : Nat, k ≤ n ∧ i = .int .i64 k ∧ Below g w wr) (fun i _ => n - (intOf i).toNat)
  case atStart => exact ⟨0, Nat.zero_le _, rfl, Below.refl _ _⟩
  case round =>
    obtain ⟨k, hk, rfl, hbr⟩ := hrel
    by_cases hlt : k < n
    · obtain ⟨s, hs⟩ : ∃ s, L[k]? = some s := ⟨_, List.getElem?_eq_getElem (by rw [hl]; exact hlt)⟩
      have hLw := hL.below hbr
      have hLw' := hL'.below hbr
      clear hL hL'
      obtain ⟨b, off, rfl, hb, c0⟩ := hLw k s hs
      obtain ⟨b', off', rfl, hb', d0⟩ := hLw' k s hs
      clear hLw hLw' hs hl
      go_wp2_with fail
      have C0 : ∀ u : Later g wr, u.val.cell? ⟨b, off + k, none⟩ = some (.int .i64 s) := fun u => (u.ok.cell (p := ⟨b, _, none⟩) hb).trans c0
      have D0 : ∀ u : Later g wr, u.val.cell? ⟨b', off' + k, none⟩ = some (.int .i64 s) := fun u => (u.ok.cell (p := ⟨b', _, none⟩) hb').trans d0
      have k0 : (0 : Int) ≤ (k : Int) := by omega
      have k1 : (k : Int) < (n : Int) := by omega
      refine wp_region_sub g (by kernel_rfl) (by kernel_rfl) ?_
      repeat (first | go_big_quiet_step (fail) | quiet_step (fail))
      refine wpQuiet_nil ?_
      rintro _ ⟨⟨w2, hb2⟩, rfl⟩
      go_wp2_with fail
      go_roundw
      case rel => exact ⟨k + 1, by omega, by go_num, hbr.trans hb2⟩
      case measure => simp [intOf]; omega
    · go_wp2_with fail
      go_ret
      exact ⟨rfl, by rw [← hBg.out]; exact hbr⟩

theorem take_set1 (xs : List Value) (k : Nat) (a : Value) (h : k < xs.length) : (xs.set k a).take (k + 1) = xs.take k ++ [a] := by
  apply List.ext_getElem?
  intro i
  have hm : min k xs.length = k := by omega
  rw [List.getElem?_take, List.getElem?_append, List.length_take, hm]
  rcases Nat.lt_trichotomy i k with h1 | h1 | h1
  · rw [if_pos (Nat.lt_succ_of_lt h1), if_pos h1, List.getElem?_set_ne (by omega), List.getElem?_take, if_pos h1]
  · subst h1
    rw [if_pos (Nat.lt_succ_self _), if_neg (Nat.lt_irrefl _), List.getElem?_set_self h]
    simp
  · have h2 : ¬ i < k + 1 := by omega
    have h3 : ¬ i < k := by omega
    rw [if_neg h2, if_neg h3, List.getElem?_eq_none (by simp; omega)]

theorem markIntS_any (A : Option Addr) (n c base : Nat) (xs : List Value) (k0 : Int) (w : World) (hn : n ≤ 1048576) (h0 : 0 ≤ k0) (h1 : k0 ≤ 1000000000) (hown : w.ownsRow base 3 1 (.slice A n c) n xs) :
    Calls Try.prog 20 #[.slice A n c, .int .i64 k0] w fun e w' => e = .returned (.int .i64 (k0 + n)) ∧ w'.ownsRow base 3 1 (.slice A n c) n (ints (upI k0 n)) ∧ w.grownBy w' (Value.slice A n c).ownBlock := by
  go_enter Try.func20, Try.ntmps20
  go_wp2_with fail
  go_loopw [1, 5] (fun q i wr => ∃ k : Nat, k ≤ n ∧ i = .int .i64 k ∧ q = .int .i64 (k0 + k) ∧ w.grownBy wr (Value.slice A n c).ownBlock ∧ ∃ ys, wr.ownsRow base 3 1 (.slice A n c) n ys ∧ ys.take k = ints (upI k0 k)) (fun _ i _ => n - (intOf i).toNat)
  case atStart => exact ⟨0, Nat.zero_le _, rfl, by simp, grown_refl _ _, xs, hown, by simp [ints, upI]⟩
  case round =>
    obtain ⟨k, hk, rfl, rfl, hgr, ys, hown1, htake⟩ := hrel
    by_cases hlt : k < n
    · obtain ⟨g, rfl⟩ := own_form hown1 (by omega)
      obtain ⟨v0, e0⟩ := own_some hown1 (j := k) (by omega)
      have f0 := hown1.frozenAt k
      have R := hown1.stored k (.int .i64 (k0 + k))
      have hy := hown1.1
      have HT := Lib.hid htake
      clear htake hown hown1
      go_wp2_with fail
      go_roundw
      case rel => exact ⟨k + 1, by omega, by go_num, by rw [show k0 + ((k + 1 : Nat) : Int) = k0 + k + 1 by omega], grown_trans hgr R.2, _, R.1, by rw [take_set1 _ _ _ (by omega), HT.out, upI_succ]; simp [ints]⟩
      case measure => simp [intOf]; omega
    · obtain rfl : k = n := by omega
      have hy := hown1.1
      rw [List.take_of_length_le (by omega)] at htake
      subst htake
      go_wp2_with fail
      go_ret
      exact ⟨rfl, hown1, hgr⟩

theorem heldIntS_any (A : Option Addr) (n c : Nat) (k0 : Int) (w : World) (hn : n ≤ 1048576) (h0 : 0 ≤ k0) (h1 : k0 ≤ 1000000000) (hL : IntsAt w w.heap.size A (upI k0 n)) :
    Calls Try.prog 21 #[.slice A n c, .int .i64 k0] w fun e w' => e = .returned (.int .i64 (k0 + n)) ∧ w = w' := by
  go_enter Try.func21, Try.ntmps21
  go_wp2_with fail
  go_loop [1, 5] (fun q i => ∃ k : Nat, k ≤ n ∧ i = .int .i64 k ∧ q = .int .i64 (k0 + k)) (fun _ i => n - (intOf i).toNat)
  case atStart => exact ⟨0, Nat.zero_le _, rfl, by simp⟩
  case round =>
    obtain ⟨k, hk, rfl, rfl⟩ := hrel
    by_cases hlt : k < n
    · obtain ⟨b, off, rfl, hb, c0⟩ := hL k _ (upI_get k0 n k hlt)
      clear hL
      go_wp2_with fail
      go_round
      case rel => exact ⟨k + 1, by omega, by go_num, by rw [show k0 + ((k + 1 : Nat) : Int) = k0 + k + 1 by omega]⟩
      case measure => simp [intOf]; omega
    · obtain rfl : k = n := by omega
      go_wp2_with fail
      go_ret
      exact ⟨rfl, rfl⟩

theorem markSquareS_any (A : Option Addr) (n c base : Nat) (xs : List Value) (k0 : Int) (w : World) (hn : n ≤ 1048576) (h0 : 0 ≤ k0) (h1 : k0 ≤ 1000000000) (hown : w.ownsRow base 96 3 (.slice A n c) n xs) :
    Calls Try.prog 68 #[.slice A n c, .int .i64 k0] w fun e w' => e = .returned (.int .i64 (k0 + 3 * n)) ∧ w'.ownsRow base 96 3 (.slice A n c) n (flat (upS k0 n)) ∧ w.grownBy w' (Value.slice A n c).ownBlock := by
  go_enter Try.func68, Try.ntmps68
  go_wp2_with fail
  go_loopw [1, 5] (fun q i wr => ∃ k : Nat, k ≤ n ∧ i = .int .i64 k ∧ q = .int .i64 (k0 + 3 * k) ∧ w.grownBy wr (Value.slice A n c).ownBlock ∧ ∃ ys, wr.ownsRow base 96 3 (.slice A n c) n ys ∧ ys.take (k * 3) = flat (upS k0 k)) (fun _ i _ => n - (intOf i).toNat)
  case atStart => exact ⟨0, Nat.zero_le _, rfl, by simp, grown_refl _ _, xs, hown, by simp [flat, upS]⟩
  case round =>
    obtain ⟨k, hk, rfl, rfl, hgr, ys, hown1, htake⟩ := hrel
    by_cases hlt : k < n
    · obtain ⟨g, rfl⟩ := own_form hown1 (by omega)
      obtain ⟨v0, e0⟩ := own_some hown1 (j := k * 3) (by omega)
      obtain ⟨v1, e1⟩ := own_some hown1 (j := k * 3 + 1) (by omega)
      obtain ⟨v2, e2⟩ := own_some hown1 (j := k * 3 + 2) (by omega)
      have f0 := hown1.frozenAt (k * 3)
      have f1 := hown1.frozenAt (k * 3 + 1)
      have f2 := hown1.frozenAt (k * 3 + 2)
      have R0 := hown1.stored (k * 3) (.int .i64 (k0 + 3 * k))
      have R1 := R0.1.stored (k * 3 + 1) (.int .i64 (k0 + 3 * k + 1))
      have R2 := R1.1.stored (k * 3 + 2) (.int .i64 (k0 + 3 * k + 1 + 1))
      have hy := hown1.1
      have HT := Lib.hid htake
      have HR := Lib.hid (And.intro R2.1 (grown_trans hgr (grown_trans R0.2 (grown_trans R1.2 R2.2))))
      clear htake hown hown1 R0 R1 R2 hgr
      go_wp2_with fail
      go_roundw
      case rel =>
        refine ⟨k + 1, by omega, by go_num, by rw [show k0 + 3 * ((k + 1 : Nat) : Int) = k0 + 3 * k + 1 + 1 + 1 by omega], HR.out.2, _, HR.out.1, ?_⟩
        rw [take_set3 _ _ _ _ _ (by omega), HT.out, upS_succ, flat_app]; rfl
      case measure => simp [intOf]; omega
    · obtain rfl : k = n := by omega
      have hy := hown1.1
      rw [List.take_of_length_le (by omega)] at htake
      subst htake
      go_wp2_with fail
      go_ret
      exact ⟨rfl, hown1, hgr⟩

theorem heldSquareS_any (A : Option Addr) (n c : Nat) (k0 : Int) (w : World) (hn : n ≤ 1048576) (h0 : 0 ≤ k0) (h1 : k0 ≤ 1000000000) (hL : SqsAt w w.heap.size A (upS k0 n)) :
    Calls Try.prog 69 #[.slice A n c, .int .i64 k0] w fun e w' => e = .returned (.int .i64 (k0 + 3 * n)) ∧ w = w' := by
  go_enter Try.func69, Try.ntmps69
  go_wp2_with fail
  go_loop [1, 5] (fun q i => ∃ k : Nat, k ≤ n ∧ i = .int .i64 k ∧ q = .int .i64 (k0 + 3 * k)) (fun _ i => n - (intOf i).toNat)
  case atStart => exact ⟨0, Nat.zero_le _, rfl, by simp⟩
  case round =>
    obtain ⟨k, hk, rfl, rfl⟩ := hrel
    by_cases hlt : k < n
    · obtain ⟨b, off, rfl, hb, c0, c1, c2⟩ := hL k _ (upS_get k0 n k hlt)
      simp only at c0 c1 c2
      clear hL
      go_wp2_with fail
      go_round
      case rel => exact ⟨k + 1, by omega, by go_num, by rw [show k0 + 3 * ((k + 1 : Nat) : Int) = k0 + 3 * k + 1 + 1 + 1 by omega]⟩
      case measure => simp [intOf]; omega
    · obtain rfl : k = n := by omega
      go_wp2_with fail
      go_ret
      exact ⟨rfl, rfl⟩
end Go.Proofs.Ytebnekicbcdnaaa
