/- CountStripsWithout. -/
import Derived.Test.YtebnekicbcdnaaaSeS
import Derived.Test.YtebnekicbcdnaaaSl
set_option linter.all false
namespace Go.Proofs.Ytebnekicbcdnaaa
open Go.RowKit

theorem addW_head (a b : List Nat) (m : Nat) : (addW a b m).getD 0 0 = a.getD 0 0 + if m = 0 then b.getD 0 0 else 0 := by
  unfold addW
  by_cases h : 0 < max a.length (b.length + m)
  · rw [List.getD, List.getElem?_map, List.getElem?_range h]
    simp only [Option.map_some, Option.getD_some, Nat.le_zero, Nat.zero_sub]
  · have ha : a = [] := List.eq_nil_of_length_eq_zero (by omega)
    have hb : b = [] := List.eq_nil_of_length_eq_zero (by omega)
    subst ha; subst hb
    have hm : m = 0 := by simp at h; omega
    subst hm
    rfl
theorem cP_head (p : Nat → Bool) (W : Nat) (H : Int) (f : List Int) (x i : Nat) : (cP p W H f x i).getD 0 0 = ((List.range i).map fun j => if p (j + 1) then 0 else (cS p W H (liftF f x (j + 1) ((j + 1 : Nat) : Int))).getD 0 0).sum := by
  induction i with
  | zero => rfl
  | succ i ih =>
    rw [cP_succ, addW_head, ih, sum_range_map]
    congr 1
    cases p (i + 1) <;> simp
/-- The strips that have no counted squares. -/
theorem cS_head {p : Nat → Bool} {W : Nat} {H : Int} (hW : 1 ≤ W) : ∀ (n : Nat) {f : List Int}, free W H f < n → Fl W H f → (cS p W H f).getD 0 0 = nS p W H f := by
  intro n
  induction n with
  | zero => intro f hn; omega
  | succ n ih =>
    intro f hn h
    obtain ⟨x, y, r, hm, hr⟩ := h.rm hW
    by_cases h0 : r = 0
    · subst h0; rw [cS_leaf hm hr, nS_leaf hm hr]; rfl
    · rw [cS_node hW h hm hr h0, nS_node hW h hm hr h0, cP_head]
      congr 1
      refine List.map_congr_left fun i hi => ?_
      have hi := List.mem_range.1 hi
      have hl := free_less h hm hr hi
      rw [ih (by omega) (h.next hm hr (s := i + 1) (by omega)).1]
noncomputable def woS (h H sd : Int) : Nat := if okSd h H sd then nS (pS sd) h.toNat H (zeroC h.toNat) else 0
theorem okSd_ex {h H sd : Int} (k : okSd h H sd = true) : ∃ a b c : Nat, h = a ∧ H = b ∧ sd = c ∧ 1 ≤ a ∧ a ≤ 4 ∧ 1 ≤ b ∧ b ≤ 30 ∧ 1 ≤ c ∧ c ≤ 4 := by
  unfold okSd at k
  rw [Bool.and_eq_true] at k
  obtain ⟨a, b, h1, h2, h3, h4, h5, h6⟩ := inB_ex k.1
  have k2 := inB_iff.1 k.2
  exact ⟨a, b, sd.toNat, h1, h2, by omega, h3, h4, h5, h6, by omega, by omega⟩
set_option maxRecDepth 100000 in
set_option maxHeartbeats 4000000 in
theorem implWo_any (h H sd : Int) (w : World) : Calls Try.prog 23 #[.int .i64 h, .int .i64 H, .int .i64 sd] w fun e w' => e = .returned (.tuple #[.int .i64 ((woS h H sd : Nat) : Int), .bool (okSd h H sd)]) ∧ Below w.heap.size w w' := by
  cases hok : okSd h H sd with
  | false =>
    have C := sideOf_bad h H sd hok w
    have e : woS h H sd = 0 := by unfold woS; rw [hok]; rfl
    rw [e]
    clear hok e
    go_enter Try.func23, Try.ntmps23
    go_wp2_with fail
    refine C.mono ?_
    rintro e w' ⟨rfl, hb⟩
    go_wp2_with fail
    go_ret2
    exact ⟨rfl, hb⟩
  | true =>
    obtain ⟨a, b, c, rfl, rfl, rfl, ha1, ha4, hb1, hb30, hc1, hc4⟩ := okSd_ex hok
    have e : woS (a : Int) (b : Int) (c : Int) = nS (pS c) a (b : Int) (zeroC a) := by unfold woS; rw [hok, if_pos rfl]; simp only [Int.toNat_natCast]
    have hf := zeroC_fl a b
    have hs := cS_head (p := pS c) ha1 _ (Nat.lt_succ_self _) hf
    have hp := cS_pos (p := pS c) ha1 hf
    rw [e, ← hs]
    have C := sideOf_good a b c ha1 ha4 hb1 hb30 (inB_iff.2 (by omega)) w
    obtain ⟨L, hL⟩ : ∃ L, cS (pS c) a (b : Int) (zeroC a) = L := ⟨_, rfl⟩
    rw [hL] at C hp ⊢
    obtain ⟨v, hv⟩ : ∃ v, L.getD 0 0 = v := ⟨_, rfl⟩
    rw [hv]
    have HV : Hid ((nI L)[0]? = some (.int .i64 (v : Int))) := Lib.hid (nI_get _ _ _ (by rw [← hv, List.getD, List.getElem?_eq_getElem (by omega)]; rfl))
    obtain ⟨n, hn⟩ : ∃ n, L.length = n := ⟨_, rfl⟩
    rw [hn] at C hp
    have HC := Lib.hid C
    have i0 : (0 : Int) < (n : Int) := by omega
    clear C hok e hf hs hL hv hn
    go_enter Try.func23, Try.ntmps23
    go_wp2_with fail
    refine HC.out.mono ?_
    rintro e w1 ⟨A, cc, rfl, hrow, hb1⟩
    obtain ⟨g, rfl⟩ := own_form hrow (by omega)
    have c0 : w1.cell? ⟨g, 0, none⟩ = some (.int .i64 (v : Int)) := (hrow.cellAt 0 (by omega)).trans HV.out
    have HB := Lib.hid hb1
    clear hrow hb1
    go_wp2_with fail
    go_ret2
    exact ⟨rfl, HB.out⟩
theorem wq_pS (c : Nat) : ∀ i, wq c (i + 1) = pS (c : Int) (i + 1) := fun i => by
  unfold wq pS
  rw [Bool.eq_iff_iff]
  simp only [beq_iff_eq]
  omega
set_option maxRecDepth 100000 in
set_option maxHeartbeats 4000000 in
theorem specWo_any (h H sd : Int) (w : World) : Calls Try.prog 22 #[.int .i64 h, .int .i64 H, .int .i64 sd] w fun e w' => e = .returned (.tuple #[.int .i64 ((woS h H sd : Nat) : Int), .bool (okSd h H sd)]) ∧ Below w.heap.size w w' := by
  have C := stSize_any h H w
  have C2 := l1In_any sd 1 4 w
  cases hok : (inB h 1 4 && inB H 1 30) with
  | false =>
    rw [hok] at C
    have e1 : okSd h H sd = false := by unfold okSd; rw [hok]; rfl
    have e : woS h H sd = 0 := by unfold woS; rw [e1]; rfl
    rw [e, e1]
    clear hok e e1
    go_enter Try.func22, Try.ntmps22
    go_wp2_with fail
    refine C.mono ?_
    rintro e w' ⟨rfl, rfl⟩
    go_wp2_with fail
    go_ret2
    exact ⟨rfl, Below.refl _ _⟩
  | true =>
    rw [hok] at C
    cases ht : inB sd 1 4 with
    | false =>
      rw [ht] at C2
      have e1 : okSd h H sd = false := by unfold okSd; rw [hok, ht]; rfl
      have e : woS h H sd = 0 := by unfold woS; rw [e1]; rfl
      rw [e, e1]
      clear hok e e1 ht
      go_enter Try.func22, Try.ntmps22
      go_wp2_with fail
      refine C.mono ?_
      rintro e w' ⟨rfl, rfl⟩
      go_wp2_with fail
      refine C2.mono ?_
      rintro e w' ⟨rfl, rfl⟩
      go_wp2_with fail
      go_ret2
      exact ⟨rfl, Below.refl _ _⟩
    | true =>
      rw [ht] at C2
      have e1 : okSd h H sd = true := by unfold okSd; rw [hok, ht]; rfl
      obtain ⟨a, b, c, rfl, rfl, rfl, ha1, ha4, hb1, hb30, hc1, hc4⟩ := okSd_ex e1
      have e : woS (a : Int) (b : Int) (c : Int) = nS (wq c) a (b : Int) (prof a b b 0) := by unfold woS; rw [e1, if_pos rfl, prof_zero]; simp only [Int.toNat_natCast]; exact (nS_congr (wq_pS c) _ _ _).symm
      rw [e, e1]
      have HC := Lib.hid C
      have HC2 := Lib.hid C2
      have HA := Lib.hid (stWays_any a b c ha1 ha4 hb1 hb30 w)
      have HCA := fun (N c0 : Nat) (g : Nat → Nat) (W : World) (T : TW N c a b N g W) => count_any N c a b N c0 g ha1 ha4 hb30 _ b 0 W (Nat.lt_succ_self _) (Nat.le_refl _) (StS.nil a b (Nat.one_le_pow _ _ (by decide))) T
      unfold RetW vS at HCA
      obtain ⟨v, hv⟩ : ∃ v, nS (wq c) a (b : Int) (prof a b b 0) = v := ⟨_, rfl⟩
      rw [hv] at HCA ⊢
      have HCA := Lib.hid HCA
      clear C C2 hok e e1 ht hv
      go_enter Try.func22, Try.ntmps22
      go_wp2_with fail
      refine HC.out.mono ?_
      rintro e w' ⟨rfl, rfl⟩
      go_wp2_with fail
      refine HC2.out.mono ?_
      rintro e w' ⟨rfl, rfl⟩
      go_wp2_with fail
      refine HA.out.mono ?_
      rintro e w2 ⟨c0, g, rfl, T2, hb2⟩
      have HB2 := Lib.hid hb2
      have HC3 := Lib.hid (HCA.out _ c0 g w2 T2)
      clear T2 hb2
      go_wp2_with fail
      refine HC3.out.mono ?_
      rintro e w3 ⟨rfl, T3, hb3⟩
      have HB3 := Lib.hid (HB2.out.trans hb3)
      clear T3 hb3
      go_wp2_with fail
      go_ret2
      exact ⟨rfl, HB3.out⟩
end Go.Proofs.Ytebnekicbcdnaaa
