/- The order of lists of numbers: plain mathematics, and the contracts that compare lists. -/
import Derived.Test.YtdpbjmdgjhleeaaSSL
set_option linter.all false
namespace Go.Proofs.Ytdpbjmdgjhleeaa
open Go.RowKit

/-- A list comes before another one. -/
def ltL : List Int → List Int → Bool
  | _, [] => false
  | [], _ :: _ => true
  | a :: r, b :: s => decide (a < b) || (decide (a = b) && ltL r s)
def leL (a b : List Int) : Bool := !ltL b a
theorem ltL_nil (a : List Int) : ltL a [] = false := by cases a <;> rfl
theorem ltL_irr (a : List Int) : ltL a a = false := by
  induction a with
  | nil => rfl
  | cons x r ih => simp [ltL, ih]
theorem ltL_app (p a b : List Int) : ltL (p ++ a) (p ++ b) = ltL a b := by
  induction p with
  | nil => rfl
  | cons x r ih => simp [ltL, ih]
theorem ltL_trans (a b c : List Int) (h : ltL a b = true) (k : ltL b c = true) : ltL a c = true := by
  induction a generalizing b c with
  | nil =>
    cases c with
    | nil => rw [ltL_nil] at k; cases k
    | cons z t => rfl
  | cons x r ih =>
    cases b with
    | nil => rw [ltL_nil] at h; cases h
    | cons y s =>
      cases c with
      | nil => rw [ltL_nil] at k; cases k
      | cons z t =>
        simp only [ltL, Bool.or_eq_true, Bool.and_eq_true, decide_eq_true_eq] at *
        rcases h with h | ⟨rfl, h⟩
        · rcases k with k | ⟨rfl, k⟩
          · exact .inl (by omega)
          · exact .inl h
        · rcases k with k | ⟨rfl, k⟩
          · exact .inl k
          · exact .inr ⟨rfl, ih s t h k⟩
theorem ltL_asymm (a b : List Int) (h : ltL a b = true) : ltL b a = false := by
  cases e : ltL b a with
  | false => rfl
  | true => have := ltL_trans a b a h e; rw [ltL_irr] at this; cases this
theorem ltL_tri (a b : List Int) (h : ltL a b = false) (k : ltL b a = false) : a = b := by
  induction a generalizing b with
  | nil =>
    cases b with
    | nil => rfl
    | cons y s => cases h
  | cons x r ih =>
    cases b with
    | nil => cases k
    | cons y s =>
      simp only [ltL, Bool.or_eq_false_iff, Bool.and_eq_false_iff, decide_eq_false_iff_not] at h k
      have e : x = y := by omega
      subst e
      rw [ih s (by rcases h.2 with h | h; exact absurd rfl h; exact h) (by rcases k.2 with k | k; exact absurd rfl k; exact k)]
theorem leL_iff {a b : List Int} : leL a b = true ↔ ltL b a = false := by simp [leL]
theorem leL_trans (a b c : List Int) (h : leL a b = true) (k : leL b c = true) : leL a c = true := by
  rw [leL_iff] at *
  cases e : ltL c a with
  | false => rfl
  | true =>
    cases f : ltL a b with
    | true => have := ltL_trans c a b e f; rw [this] at k; cases k
    | false =>
      have := ltL_tri a b f h
      subst this
      rw [e] at k; cases k
theorem leL_total (a b : List Int) : (leL a b || leL b a) = true := by
  rw [Bool.or_eq_true, leL_iff, leL_iff]
  cases e : ltL b a with
  | false => exact .inl rfl
  | true => exact .inr (ltL_asymm b a e)
theorem leL_of {a b : List Int} (h : ltL a b = true) : leL a b = true := leL_iff.2 (ltL_asymm a b h)
/-- Lists in their order. -/
def srtL (M : List (List Int)) : List (List Int) := M.mergeSort leL
theorem srtL_perm (M : List (List Int)) : (srtL M).Perm M := List.mergeSort_perm M _
theorem srtL_uniq {M R : List (List Int)} (hp : R.Perm M) (hs : R.Pairwise fun a b => leL a b = true) : R = srtL M := by
  refine List.Perm.eq_of_pairwise (le := fun a b => leL a b = true) (fun a b _ _ h1 h2 => ?_) hs (List.pairwise_mergeSort leL_trans leL_total M) (hp.trans (srtL_perm M).symm)
  exact (ltL_tri a b (leL_iff.1 h2) (leL_iff.1 h1))
/-- The sign of a comparison. -/
def cmpL (a b : List Int) : Int := if ltL a b then -1 else if ltL b a then 1 else 0
theorem cmpL_lt {a b : List Int} : cmpL a b < 0 ↔ ltL a b = true := by
  unfold cmpL
  cases ltL a b <;> cases ltL b a <;> simp
theorem ltL_at (a b : List Int) (i : Nat) (x y : Int) (ha : a[i]? = some x) (hb : b[i]? = some y) (hp : a.take i = b.take i) : ltL a b = (decide (x < y) || (decide (x = y) && ltL (a.drop (i + 1)) (b.drop (i + 1)))) := by
  obtain ⟨hi, rfl⟩ := List.getElem?_eq_some_iff.1 ha
  obtain ⟨hj, rfl⟩ := List.getElem?_eq_some_iff.1 hb
  have e1 := List.take_append_drop i a
  have e2 := List.take_append_drop i b
  rw [List.drop_eq_getElem_cons hi] at e1
  rw [List.drop_eq_getElem_cons hj] at e2
  conv => lhs; rw [← e1, ← e2, hp, ltL_app]
  rfl
theorem ltL_out (a b : List Int) (i : Nat) (hi : a.length = i ∨ b.length = i) (ha : i ≤ a.length) (hb : i ≤ b.length) (hp : a.take i = b.take i) : ltL a b = decide (a.length < b.length) := by
  have e1 := List.take_append_drop i a
  have e2 := List.take_append_drop i b
  have h : ltL a b = ltL (a.drop i) (b.drop i) := by conv => lhs; rw [← e1, ← e2, hp, ltL_app]
  rw [h]
  rcases hi with hi | hi
  · rw [List.drop_of_length_le (by omega : a.length ≤ i)]
    rcases Nat.lt_or_ge i b.length with h1 | h1
    · rw [List.drop_eq_getElem_cons h1]; simp [ltL]; omega
    · rw [List.drop_of_length_le h1]; simp [ltL]; omega
  · rw [List.drop_of_length_le (by omega : b.length ≤ i), ltL_nil]
    simp; omega
theorem insL_perm {α : Type} (R : List α) (s : α) (k : Nat) : (R.take k ++ s :: R.drop k).Perm (s :: R) := by
  have := List.perm_middle (a := s) (l₁ := R.take k) (l₂ := R.drop k)
  rwa [List.take_append_drop] at this
theorem insL_pair {R : List Rw} {s : Rw} {k : Nat} (hR : R.Pairwise (fun a b => leL a.L b.L = true)) (hk : k ≤ R.length) (ha : ∀ (j : Nat) q, k ≤ j → R[j]? = some q → ltL s.L q.L = true)
    (hb : ∀ q, 0 < k → R[k - 1]? = some q → ltL s.L q.L = false) : (R.take k ++ s :: R.drop k).Pairwise (fun a b => leL a.L b.L = true) := by
  have hsplit : (R.take k ++ R.drop k).Pairwise (fun a b => leL a.L b.L = true) := by rw [List.take_append_drop]; exact hR
  obtain ⟨h1, h2, h3⟩ := List.pairwise_append.1 hsplit
  refine List.pairwise_append.2 ⟨h1, List.pairwise_cons.2 ⟨fun b hb' => ?_, h2⟩, fun a ha' b hb' => ?_⟩
  · obtain ⟨j, hj⟩ := List.mem_iff_getElem?.1 hb'
    rw [List.getElem?_drop] at hj
    exact leL_of (ha _ b (by omega) hj)
  · rcases List.mem_cons.1 hb' with rfl | hb'
    · obtain ⟨j, hj⟩ := List.mem_iff_getElem?.1 ha'
      rw [List.getElem?_take] at hj
      split at hj
      · have hl : R[k - 1]? = some (R[k - 1]'(by omega)) := List.getElem?_eq_getElem (by omega)
        have c := leL_iff.2 (hb _ (by omega) hl)
        obtain ⟨hjl, hje⟩ := List.getElem?_eq_some_iff.1 hj
        rcases Nat.lt_or_ge j (k - 1) with h | h
        · have := List.pairwise_iff_getElem.1 hR j (k - 1) hjl (by omega) h
          rw [hje] at this
          exact leL_trans _ _ _ this c
        · have e : j = k - 1 := by omega
          subst e
          rw [hje] at c
          exact c
      · cases hj
    · exact h3 a ha' b hb'
theorem take_step {a b : List Int} {k : Nat} {x : Int} (hp : a.take k = b.take k) (ha : a[k]? = some x) (hb : b[k]? = some x) : a.take (k + 1) = b.take (k + 1) := by
  rw [List.take_add_one, List.take_add_one, hp, ha, hb]

set_option maxRecDepth 100000 in
set_option maxHeartbeats 2000000 in
theorem cuBefore_any (A A' : Option Addr) (n n' c c' : Nat) (a b : List Int) (w : World) (hl : a.length = n) (hl' : b.length = n') (hn : n ≤ 1048576) (hn' : n' ≤ 1048576) (hA : IntsAt w w.heap.size A a) (hA' : IntsAt w w.heap.size A' b) :
    Calls Try.prog 77 #[.slice A n c, .slice A' n' c'] w fun e w' => e = .returned (.bool (ltL a b)) ∧ Below w.heap.size w w' := by
  subst hl
  subst hl'
  obtain ⟨g, hg⟩ : ∃ g, g = w.heap.size := ⟨_, rfl⟩
  have hBg := Lib.hid hg
  rw [← hg] at hA hA'
  clear hg
  go_enter Try.func77, Try.ntmps77
  go_wp2_with fail
  go_loopw [5] (fun i wr => ∃ k : Nat, k ≤ a.length ∧ k ≤ b.length ∧ i = .int .i64 k ∧ Below g w wr ∧ a.take k = b.take k) (fun i _ => a.length - (intOf i).toNat)
  case atStart => exact ⟨0, Nat.zero_le _, Nat.zero_le _, rfl, Below.refl _ _, rfl⟩
  case round =>
    obtain ⟨k, hka, hkb, rfl, hbr, hp⟩ := hrel
    have hsz : g ≤ wr.heap.size := by have := hbr.size; rw [hBg.out]; omega
    by_cases h1 : k < a.length
    · by_cases h2 : k < b.length
      · obtain ⟨x, hx⟩ : ∃ x, a[k]? = some x := ⟨_, List.getElem?_eq_getElem h1⟩
        obtain ⟨y, hy⟩ : ∃ y, b[k]? = some y := ⟨_, List.getElem?_eq_getElem h2⟩
        obtain ⟨b1, o1, rfl, hb1, x0⟩ := hA k x hx
        obtain ⟨b2, o2, rfl, hb2, y0⟩ := hA' k y hy
        have X0 : ∀ u : Later g wr, u.val.cell? ⟨b1, o1 + k, none⟩ = some (.int .i64 x) := fun u => (u.ok.cell (p := ⟨b1, _, none⟩) hb1).trans ((hbr.cell (p := ⟨b1, _, none⟩) hb1).trans x0)
        have Y0 : ∀ u : Later g wr, u.val.cell? ⟨b2, o2 + k, none⟩ = some (.int .i64 y) := fun u => (u.ok.cell (p := ⟨b2, _, none⟩) hb2).trans ((hbr.cell (p := ⟨b2, _, none⟩) hb2).trans y0)
        have hat := ltL_at a b k x y hx hy hp
        have HX := Lib.hid hx
        have HY := Lib.hid hy
        have HP := Lib.hid hp
        have HAT := Lib.hid hat
        have k0 : (0 : Int) ≤ (k : Int) := by omega
        have k1 : (k : Int) < (a.length : Int) := by omega
        have k2 : (k : Int) < (b.length : Int) := by omega
        clear hx hy hp hat hA hA' x0 y0
        rcases Bool.eq_false_or_eq_true (x != y) with e | e
        · go_wp2_with fail
          refine wp_region_sub g (by kernel_rfl) (by kernel_rfl) ?_
          repeat (first | go_big_quiet_step (fail) | quiet_step (fail))
          refine wpQuiet_nil ?_
          rintro w2 ⟨uu, hu⟩; have hb3 := uu.ok; rw [← hu] at hb3; clear hu uu
          have X1 : ∀ u : Later g w2, u.val.cell? ⟨b1, o1 + k, none⟩ = some (.int .i64 x) := fun u => (u.ok.cell (p := ⟨b1, _, none⟩) hb1).trans (X0 ⟨w2, hb3⟩)
          have Y1 : ∀ u : Later g w2, u.val.cell? ⟨b2, o2 + k, none⟩ = some (.int .i64 y) := fun u => (u.ok.cell (p := ⟨b2, _, none⟩) hb2).trans (Y0 ⟨w2, hb3⟩)
          clear X0 Y0
          go_wp2_with fail
          refine wp_region_sub g (by kernel_rfl) (by kernel_rfl) ?_
          repeat (first | go_big_quiet_step (fail) | quiet_step (fail))
          refine wpQuiet_nil ?_
          rintro w4 ⟨uu, hu⟩; have hb4 := uu.ok; rw [← hu] at hb4; clear hu uu
          go_wp2_with fail
          go_ret
          refine ⟨ret_bool ?_, by rw [← hBg.out]; exact (hbr.trans hb3).trans hb4⟩
          rw [HAT.out]
          have : ¬ x = y := by simpa using e
          simp [this]
        · go_wp2_with fail
          refine wp_region_sub g (by kernel_rfl) (by kernel_rfl) ?_
          repeat (first | go_big_quiet_step (fail) | quiet_step (fail))
          refine wpQuiet_nil ?_
          rintro w2 ⟨uu, hu⟩; have hb3 := uu.ok; rw [← hu] at hb3; clear hu uu
          clear X0 Y0
          go_wp2_with fail
          go_roundw
          case rel =>
            refine ⟨k + 1, by omega, by omega, by go_num, hbr.trans hb3, ?_⟩
            have : x = y := by simpa using e
            subst this
            exact take_step HP.out HX.out HY.out
          case measure => simp [intOf]; omega
      · have hout := ltL_out a b k (.inr (by omega)) hka hkb hp
        have HO := Lib.hid hout
        have h2' : ¬ (k : Int) < (b.length : Int) := by omega
        clear hout hp
        go_wp2_with fail
        go_ret
        exact ⟨ret_bool (by rw [HO.out] <;> simp), by rw [← hBg.out]; exact hbr⟩
    · have hout := ltL_out a b k (.inl (by omega)) hka hkb hp
      have HO := Lib.hid hout
      have h1' : ¬ (k : Int) < (a.length : Int) := by omega
      clear hout hp
      go_wp2_with fail
      go_ret
      exact ⟨ret_bool (by rw [HO.out] <;> simp), by rw [← hBg.out]; exact hbr⟩

set_option maxRecDepth 100000 in
set_option maxHeartbeats 2000000 in
theorem compareL_any (A A' : Option Addr) (n n' c c' : Nat) (a b : List Int) (w : World) (hl : a.length = n) (hl' : b.length = n') (hn : n ≤ 1048576) (hn' : n' ≤ 1048576) (hA : IntsAt w w.heap.size A a) (hA' : IntsAt w w.heap.size A' b) :
    Calls Try.prog 82 #[.slice A n c, .slice A' n' c'] w fun e w' => e = .returned (.int .i64 (cmpL a b)) ∧ w = w' := by
  subst hl
  subst hl'
  go_enter Try.func82, Try.ntmps82
  go_wp2_with fail
  go_loop [11] (fun i => ∃ k : Nat, k ≤ a.length ∧ k ≤ b.length ∧ i = .int .i64 k ∧ a.take k = b.take k) (fun i => a.length - (intOf i).toNat)
  case atStart => exact ⟨0, Nat.zero_le _, Nat.zero_le _, rfl, rfl⟩
  case round =>
    obtain ⟨k, hka, hkb, rfl, hp⟩ := hrel
    by_cases h1 : k < a.length
    · obtain ⟨x, hx⟩ : ∃ x, a[k]? = some x := ⟨_, List.getElem?_eq_getElem h1⟩
      obtain ⟨b1, o1, rfl, hb1, x0⟩ := hA k x hx
      have k0 : (0 : Int) ≤ (k : Int) := by omega
      have k1 : (k : Int) < (a.length : Int) := by omega
      by_cases h2 : k < b.length
      · obtain ⟨y, hy⟩ : ∃ y, b[k]? = some y := ⟨_, List.getElem?_eq_getElem h2⟩
        obtain ⟨b2, o2, rfl, hb2, y0⟩ := hA' k y hy
        have e1 := ltL_at a b k x y hx hy hp
        have e2 := ltL_at b a k y x hy hx hp.symm
        have HX := Lib.hid hx
        have HY := Lib.hid hy
        have HP := Lib.hid hp
        have H1 := Lib.hid e1
        have H2 := Lib.hid e2
        have k2 : (k : Int) < (b.length : Int) := by omega
        clear hx hy hp e1 e2 hA hA'
        rcases Int.lt_trichotomy x y with h | h | h
        · have hc : cmpI x y = -1 := by unfold cmpI; rw [if_pos h]
          have CC := compare_any x y w
          rw [hc] at CC
          clear hc
          go_wp2_with fail
          refine CC.mono ?_
          rintro e w' ⟨rfl, rfl⟩
          clear CC
          go_wp2_with fail
          go_ret
          refine ⟨ret_int ?_, rfl⟩
          unfold cmpL
          rw [H1.out]
          simp [h]
        · subst h
          have hc : cmpI x x = 0 := by unfold cmpI; rw [if_neg (by omega), if_neg (by omega)]
          have CC := compare_any x x w
          rw [hc] at CC
          clear hc
          go_wp2_with fail
          refine CC.mono ?_
          rintro e w' ⟨rfl, rfl⟩
          clear CC
          go_wp2_with fail
          go_round
          case rel => exact ⟨k + 1, by omega, by omega, by go_num, take_step HP.out HX.out HY.out⟩
          case measure => simp [intOf]; omega
        · have hc : cmpI x y = 1 := by unfold cmpI; rw [if_neg (by omega), if_pos h]
          have CC := compare_any x y w
          rw [hc] at CC
          clear hc
          go_wp2_with fail
          refine CC.mono ?_
          rintro e w' ⟨rfl, rfl⟩
          clear CC
          go_wp2_with fail
          go_ret
          refine ⟨ret_int ?_, rfl⟩
          unfold cmpL
          have h3 : ¬ x < y := by omega
          have h4 : ¬ x = y := by omega
          rw [H1.out, H2.out]
          simp [h, h3, h4]
      · have e1 := ltL_out a b k (.inr (by omega)) hka hkb hp
        have e2 := ltL_out b a k (.inl (by omega)) hkb hka hp.symm
        have H1 := Lib.hid e1
        have H2 := Lib.hid e2
        have h2' : (b.length : Int) ≤ (k : Int) := by omega
        clear e1 e2 hp hx hA hA'
        go_wp2_with fail
        go_ret
        refine ⟨ret_int ?_, rfl⟩
        unfold cmpL
        rw [H1.out, H2.out, decide_eq_false (by omega : ¬ a.length < b.length), decide_eq_true (by omega : b.length < a.length)]
        rfl
    · have e1 := ltL_out a b k (.inl (by omega)) hka hkb hp
      have e2 := ltL_out b a k (.inr (by omega)) hkb hka hp.symm
      have H1 := Lib.hid e1
      have H2 := Lib.hid e2
      have h1' : ¬ (k : Int) < (a.length : Int) := by omega
      clear e1 e2 hp hA hA'
      by_cases h3 : a.length < b.length
      · have h3' : (a.length : Int) < (b.length : Int) := by omega
        go_wp2_with fail
        go_ret
        refine ⟨ret_int ?_, rfl⟩
        unfold cmpL
        rw [H1.out, decide_eq_true h3]
        rfl
      · have h3' : ¬ (a.length : Int) < (b.length : Int) := by omega
        go_wp2_with fail
        go_ret
        refine ⟨ret_int ?_, rfl⟩
        unfold cmpL
        rw [H1.out, H2.out, decide_eq_false h3, decide_eq_false (by omega : ¬ b.length < a.length)]
        rfl
end Go.Proofs.Ytdpbjmdgjhleeaa
