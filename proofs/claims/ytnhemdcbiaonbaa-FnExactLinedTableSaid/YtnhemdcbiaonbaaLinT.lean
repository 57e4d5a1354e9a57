/- LinedTable: the program's and the model's. -/
import Derived.Test.YtnhemdcbiaonbaaLawFewL
import Derived.Test.YtnhemdcbiaonbaaApp
import Derived.Lib.SlicesCompact
namespace Go.Proofs.Ytnhemdcbiaonbaa
open Go.RowKit

theorem ints_one (L : List Int) : ∀ u ∈ ints L, u.oneCell' = true := by
  intro u hu
  simp only [ints, List.mem_map] at hu
  obtain ⟨z, _, rfl⟩ := hu
  rfl
theorem ints_src {w : World} {ad : Addr} {n c : Nat} {L : List Int} (hc : ∀ j z, L[j]? = some z → w.cell? (ad.add j) = some (.int .i64 z)) : Src w (some ad) n c (ints L) := by
  refine .inr ⟨ad, rfl, fun j u hu => ?_⟩
  simp only [ints, List.getElem?_map, Option.map_eq_some_iff] at hu
  obtain ⟨z, hz, rfl⟩ := hu
  exact hc j z hz
set_option maxRecDepth 100000 in
theorem cloneI_any (ad : Addr) (n c : Nat) (L : List Int) (w : World) (hl : L.length = n) (hn : n ≤ 1000) (hc : ∀ j z, L[j]? = some z → w.cell? (ad.add j) = some (.int .i64 z)) :
    Calls Try.prog 64 #[.slice (some ad) n c] w fun e w' => ∃ A' c', e = .returned (.slice A' n c') ∧ w'.ownsRow w.heap.size 3 1 (.slice A' n c') n (ints L) ∧ Below w.heap.size w w' := by
  have q : ∀ (w : World) (a : Option Addr) (n c n' c' : Nat), (binOp .eql 22 (.slice a n c) (.slice none n' c')).run Try.prog w = .ok (.bool a.isNone) w := fun w a n c n' c' => Lib.run_eql_slice_nil w _ _ a n c n' c' Try.underlying22
  obtain ⟨i0, hi, hz0, hz1, hz2⟩ := info_parts infoInt
  have hsrc : ∀ o, Src (w.alloc o) (some ad) n c (ints L) := fun o => ints_src fun j z hj => by
    have h1 := hc j z hj
    rw [World.cell?_alloc_lt w o _ (World.block_lt_of_cell? _ _ h1)]
    exact h1
  have hfl : (ints L).length = n * 1 := by simp [ints, hl]
  have HFL := Lib.hid hfl
  clear hfl hl hc
  go_enter Try.func64, Try.ntmps64
  go_wp2_with (at_builtin; refine app_list rfl _ _ _ rfl w.heap.size 3 i0 (.int .i64 0) 1 8 Try.underlying22 hi hz0 hz1 hz2 rfl (by decide) (.slice (some ⟨w.heap.size, 0, none⟩) 0 0) 0 [] rfl (World.ownsRow_lit w #[] 0 (Nat.le_refl _) (Nat.zero_le _) rfl) (some ad) n c (ints L) rfl HFL.out (hsrc _) (ints_one _) (by unfold maxLen; omega) (by omega) (by simp) ?_; intro v' w1 hown hgr _; have hb : Below w.heap.size w w1 := ((Below.refl _ w).alloc (Nat.le_refl _) _).grown hgr (by simp) (fun kk hkk => by simp [Value.ownBlock] at hkk; omega))
  go_ret
  simp only [Nat.zero_add, List.nil_append] at hown
  obtain ⟨A', c', rfl⟩ := own_val hown
  exact ⟨A', c', rfl, hown, hb⟩
def linR (m : Nat) : List Int := (List.range m).map fun i => best m (i + 1)
theorem linR_len (m : Nat) : (linR m).length = m := by simp [linR]
theorem linR_get {m j : Nat} {z : Int} (h : (linR m)[j]? = some z) : j < m ∧ z = best m (j + 1) := by
  have hl := (List.getElem?_eq_some_iff.1 h).1
  rw [linR_len] at hl
  simp [linR, List.getElem?_map, hl] at h
  exact ⟨hl, h.symm⟩
noncomputable def linT (W : Int) : List Int := if inB W 1 60 then linR W.toNat else []
theorem linT_yes {m : Nat} (h : inB (m : Int) 1 60 = true) : linT m = linR m := by simp only [linT, h, if_true, Int.toNat_natCast]
theorem linT_no {W : Int} (h : inB W 1 60 = false) : linT W = [] := by simp [linT, h]
set_option maxRecDepth 100000 in
set_option maxHeartbeats 4000000 in
theorem implLin_any (W : Int) (w : World) : Calls Try.prog 33 #[.int .i64 W] w (RetInts w (linT W) (inB W 1 60)) := by
  cases hok : inB W 1 60 with
  | true =>
    have h2 := inB_iff.1 hok
    obtain ⟨m, rfl⟩ := Int.eq_ofNat_of_zero_le (show 0 ≤ W by omega)
    rw [linT_yes hok]
    have k0 : ¬ (m : Int) < 1 := by omega
    have k1 : (m : Int) ≤ 60 := by omega
    have k2 : (0 : Int) ≤ (m : Int) := by omega
    have k3 : (m : Int) < 61 := by omega
    have k4 : (m : Int) + 1 ≤ 61 := by omega
    have k5 : (1 : Int) ≤ (m : Int) + 1 := by omega
    have k6 : IntKind.i64.wrap ((m : Int) + 1) = (m : Int) + 1 := IntWalk.i64_in _ (by omega)
    clear hok
    go_enter Try.func33, Try.ntmps33
    go_wp2_with fail
    refine (countLined_any m m _ (by omega) (by omega)).mono ?_
    rintro e w2 ⟨rfl, hb2, T, hT, hD⟩
    have hsrc : ∀ j z, (linR m)[j]? = some z → w2.cell? ((⟨w.heap.size, m * 61 + 1, none⟩ : Addr).add j) = some (.int .i64 z) := fun j z hj => by
      obtain ⟨hjm, rfl⟩ := linR_get hj
      have hc := hT.2.1 m (j + 1) (by omega) (by omega)
      rw [hD m (j + 1) (by omega) (by omega) (by omega) (by omega)] at hc
      rw [add_at, show m * 61 + 1 + j = m * 61 + (j + 1) by omega]
      exact hc
    have HS := Lib.hid hsrc
    have hm61 := Lib.hid (show m ≤ 60 by omega)
    clear hT hD hsrc
    go_wp2_with fail
    refine (cloneI_any _ m _ (linR m) _ (linR_len m) (by omega) HS.out).mono ?_
    rintro e w3 ⟨A, c, rfl, ho, hb3⟩
    go_wp2_with fail
    go_ret2
    exact RetInts.mk (linR_len m).symm (own_base ho hb2.size) (hb2.trans (hb3.mono hb2.size))
  | false =>
    have hno : ¬ (1 ≤ W ∧ W ≤ 60) := fun h => by rw [inB_iff.2 h] at hok; cases hok
    rw [linT_no hok]
    clear hok
    by_cases h1 : W < 1
    · go_enter Try.func33, Try.ntmps33
      go_wp2_with fail
      go_ret2
      exact RetInts.none_ (Below.refl _ _)
    · have h2 : 60 < W := by omega
      go_enter Try.func33, Try.ntmps33
      go_wp2_with fail
      go_ret2
      exact RetInts.none_ (Below.refl _ _)
set_option maxRecDepth 100000 in
set_option maxHeartbeats 4000000 in
theorem specLin_any (W : Int) (w : World) : Calls Try.prog 32 #[.int .i64 W] w (RetInts w (linT W) (inB W 1 60)) := by
  have ha := l1In_any W 1 60 w
  obtain ⟨i0, hi, hz0, hz1, hz2⟩ := info_parts infoInt
  cases hok : inB W 1 60 with
  | true =>
    have h2 := inB_iff.1 hok
    obtain ⟨m, rfl⟩ := Int.eq_ofNat_of_zero_le (show 0 ≤ W by omega)
    rw [linT_yes hok]
    rw [hok] at ha
    have k2 : (0 : Int) ≤ (m : Int) := by omega
    have k3 : (m : Int) < (m : Int) + 1 := by omega
    have k4 : (1 : Int) ≤ (m : Int) + 1 := by omega
    have k5 : ¬ m + 1 = 1 := by omega
    have k6 : ¬ m = 0 := by omega
    obtain ⟨W1, hW1⟩ : ∃ W1, W1 = w.alloc (.cells #[] 3) := ⟨_, rfl⟩
    have o1 : W1.ownsRow w.heap.size 3 1 (.slice (some ⟨w.heap.size, 0, none⟩) 0 0) 0 [] := by rw [hW1]; exact World.ownsRow_lit w #[] 0 (Nat.le_refl _) (Nat.zero_le _) rfl
    have b1 : Below w.heap.size w W1 := by rw [hW1]; exact (Below.refl _ _).alloc (Nat.le_refl _) _
    clear hok
    go_enter Try.func32, Try.ntmps32
    go_wp2_with fail
    refine ha.mono ?_
    rintro e w' ⟨rfl, rfl⟩
    go_wp2_with fail
    rw [← hW1]
    clear hW1
    refine (feLines_any m m _ (by omega) (by omega) (by omega) (by omega)).mono ?_
    rintro e w2 ⟨g, rb, rfl, hT⟩
    have c1 := hT.rows m (by omega)
    have hsrc : ∀ j z, (linR m)[j]? = some z → w2.cell? ((⟨rb m, 1, none⟩ : Addr).add j) = some (.int .i64 z) := fun j z hj => by
      obtain ⟨hjm, rfl⟩ := linR_get hj
      have hc := (hT.val (x := m) (y := j + 1) (by omega) (by omega) ⟨by omega, by omega, by omega, by omega⟩).2.1
      rw [add_at, show 1 + j = j + 1 by omega]
      exact hc
    have hb2 := hT.below
    have o2 := own_keep o1 hb2
    have hB2 := b1.trans (hb2.mono b1.size)
    have HS := Lib.hid (ints_src (n := m) (c := m) hsrc)
    have hfl : (ints (linR m)).length = m * 1 := by simp [ints, linR_len]
    have HFL := Lib.hid hfl
    have hbd : 0 + m ≤ maxLen := by unfold maxLen; omega
    have hbd2 : (0 + m) * 8 ≤ 140737488355328 := by omega
    clear hT hsrc hfl o1 hb2
    go_wp2_with (at_builtin; refine app_list rfl _ _ _ rfl w.heap.size 3 i0 (.int .i64 0) 1 8 Try.underlying22 hi hz0 hz1 hz2 rfl (by decide) (.slice (some ⟨w.heap.size, 0, none⟩) 0 0) 0 [] rfl o2 (some ⟨rb m, 1, none⟩) m m (ints (linR m)) rfl HFL.out HS.out (ints_one _) hbd hbd2 hB2.size ?_; intro v' w3 hown hgr _; have hb3 : Below w.heap.size w w3 := hB2.grown hgr hB2.size (fun kk hkk => (o2.lt kk hkk).1))
    go_ret2
    simp only [Nat.zero_add, List.nil_append] at hown
    obtain ⟨A', c', rfl⟩ := own_val hown
    exact RetInts.mk (linR_len m).symm hown hb3
  | false =>
    rw [linT_no hok]
    rw [hok] at ha
    clear hok
    go_enter Try.func32, Try.ntmps32
    go_wp2_with fail
    refine ha.mono ?_
    rintro e w' ⟨rfl, rfl⟩
    go_wp2_with fail
    go_ret2
    exact RetInts.none_ (Below.refl _ _)
end Go.Proofs.Ytnhemdcbiaonbaa
