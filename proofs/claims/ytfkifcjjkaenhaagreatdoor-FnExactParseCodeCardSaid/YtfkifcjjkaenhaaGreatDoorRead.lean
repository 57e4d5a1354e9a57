/- Reading lists of lists of numbers: which group is long, whether two are the same. -/
import Derived.Test.YtfkifcjjkaenhaaGreatDoorSS
import Derived.Test.YtfkifcjjkaenhaaGreatDoorShelf
import Derived.Test.YtfkifcjjkaenhaaGreatDoorLeaf
set_option linter.all false
namespace Go.Proofs.YtfkifcjjkaenhaaGreatDoor
open Go.RowKit

set_option maxRecDepth 100000 in
theorem isLong_any (A : Option Addr) (n c : Nat) (w : World) : Calls Tryz.prog 45 #[.slice A n c] w (RetB w (30 < n)) := by
  go_enter Tryz.func45, Tryz.ntmps45
  by_cases h : 30 < n
  · have h1 : decide ((30 : Int) < (n : Int)) = true := by rw [decide_eq_true_iff]; omega
    have h2 : decide (30 < n) = true := by rw [decide_eq_true_iff]; omega
    go_wp2_with fail
    go_ret
    refine RetB.mk (p := 30 < n) ?_ (Below.refl _ _)
    simp
    omega
  · have h1 : decide ((30 : Int) < (n : Int)) = false := by rw [decide_eq_false_iff_not]; omega
    have h2 : decide (30 < n) = false := by rw [decide_eq_false_iff_not]; omega
    go_wp2_with fail
    go_ret
    refine RetB.mk (p := 30 < n) ?_ (Below.refl _ _)
    simp
    omega
set_option maxRecDepth 100000 in
set_option maxHeartbeats 2000000 in
theorem indexLong_any (A : Option Addr) (n c : Nat) (M : List (List Int)) (w : World) (hl : M.length = n) (hn : n ≤ 1048576) (hM : RowsAt w w.heap.size A M) :
    Calls Tryz.prog 66 #[.slice A n c, .func (.func 45) #[] #[]] w fun e w' => (∃ z : Int, e = .returned (.int .i64 z) ∧ (0 ≤ z ↔ ∃ l ∈ M, 30 < l.length)) ∧ Below w.heap.size w w' := by
  subst hl
  go_enter Tryz.func66, Tryz.ntmps66
  go_wp2_with fail
  go_loopw [8] (fun i wr => ∃ k : Nat, k ≤ M.length ∧ i = .int .i64 k ∧ Below w.heap.size w wr ∧ ∀ (j : Nat) l, j < k → M[j]? = some l → ¬ 30 < l.length) (fun i _ => M.length - (intOf i).toNat)
  case atStart => exact ⟨0, Nat.zero_le _, rfl, Below.refl _ _, fun j l hj => by omega⟩
  case round =>
    obtain ⟨k, hk, rfl, hbr, hin⟩ := hrel
    have HI := Lib.hid hin
    clear hin
    by_cases hlt : k < M.length
    · obtain ⟨l, hs⟩ : ∃ l, M[k]? = some l := ⟨_, List.getElem?_eq_getElem hlt⟩
      obtain ⟨b, off, A', c', rfl, hb, d0, hlc, _⟩ := hM k l hs
      have d0r : wr.cell? ⟨b, off + k, none⟩ = some (.slice A' l.length c') := (hbr.cell (p := ⟨b, _, none⟩) hb).trans d0
      have k0 : (0 : Int) ≤ (k : Int) := by omega
      have k1 : (k : Int) < (M.length : Int) := by omega
      have HS := Lib.hid hs
      clear hs d0 hM
      by_cases hlong : 30 < l.length
      · go_wp2_with fail
        refine (callB_yes (isLong_any A' l.length c' _) hlong).mono ?_
        rintro e w2 ⟨rfl, hb2⟩
        have hB := hbr.trans (hb2.mono hbr.size)
        go_wp2_with fail
        go_ret
        exact ⟨⟨_, rfl, fun _ => ⟨l, List.mem_of_getElem? HS.out, hlong⟩, fun _ => k0⟩, hB⟩
      · go_wp2_with fail
        refine (callB_no (isLong_any A' l.length c' _) hlong).mono ?_
        rintro e w2 ⟨rfl, hb2⟩
        have hB := hbr.trans (hb2.mono hbr.size)
        go_wp2_with fail
        go_roundw
        case rel =>
          refine ⟨k + 1, by omega, by go_num, hB, fun j q hj hq => ?_⟩
          by_cases e : j = k
          · subst e
            obtain rfl := Option.some.inj (HS.out.symm.trans hq)
            exact hlong
          · exact HI.out j q (by omega) hq
        case measure => simp [intOf]; omega
    · obtain rfl : k = M.length := by omega
      clear hM
      go_wp2_with fail
      go_ret
      refine ⟨⟨_, rfl, fun h => by omega, fun h => ?_⟩, hbr⟩
      obtain ⟨l, hl, h30⟩ := h
      obtain ⟨j, hj, e⟩ := List.mem_iff_getElem.1 hl
      exact absurd h30 (HI.out j l hj (by rw [List.getElem?_eq_getElem hj, e]))
set_option maxRecDepth 100000 in
theorem containsLong_any (A : Option Addr) (n c : Nat) (M : List (List Int)) (w : World) (hl : M.length = n) (hn : n ≤ 1048576) (hM : RowsAt w w.heap.size A M) :
    Calls Tryz.prog 44 #[.slice A n c, .func (.func 45) #[] #[]] w (RetB w (∃ l ∈ M, 30 < l.length)) := by
  go_enter Tryz.func44, Tryz.ntmps44
  go_wp2_with fail
  refine (indexLong_any A n c M w hl hn hM).mono ?_
  rintro e w2 ⟨⟨z, rfl, hz⟩, hb2⟩
  have HZ := Lib.hid hz
  clear hz
  by_cases h0 : 0 ≤ z
  · go_wp2_with fail
    go_ret
    exact RetB.mk (p := ∃ l ∈ M, 30 < l.length) (by simpa using HZ.out.1 h0) hb2
  · go_wp2_with fail
    go_ret
    exact RetB.mk (p := ∃ l ∈ M, 30 < l.length) ⟨fun e => HZ.out.1 (by simpa using e), fun h => absurd (HZ.out.2 h) (by omega)⟩ hb2

theorem equalI_any (A A' : Option Addr) (c c' : Nat) (l l' : List Int) (w : World) (hn : l.length ≤ 1048576) (hn' : l'.length ≤ 1048576) (hI : IntsAt w w.heap.size A l) (hI' : IntsAt w w.heap.size A' l') :
    Calls Tryz.prog 52 #[.slice A l.length c, .slice A' l'.length c'] w (RetB w (l = l')) := by
  by_cases hlen : l.length = l'.length
  · by_cases h0 : l.length = 0
    · have e1 : l = [] := List.eq_nil_of_length_eq_zero h0
      have e2 : l' = [] := List.eq_nil_of_length_eq_zero (by omega)
      subst e1; subst e2
      refine (Tryz.slices_Equal_int_empty A A' c 0 c' w (by omega)).mono ?_
      rintro e w' ⟨rfl, rfl⟩
      exact RetB.mk (p := ([] : List Int) = []) (by simp) (Below.refl _ _)
    · obtain ⟨b, off, rfl, _, _⟩ := hI 0 (l.getD 0 0) (by simp [List.getD, List.getElem?_eq_getElem (by omega : 0 < l.length)])
      obtain ⟨b', off', rfl, _, _⟩ := hI' 0 (l'.getD 0 0) (by simp [List.getD, List.getElem?_eq_getElem (by omega : 0 < l'.length)])
      have cc : ∀ {b off : Nat} {l : List Int}, IntsAt w w.heap.size (some ⟨b, off, none⟩) l → ∀ j, j < l.length → w.cell? ⟨b, off + j, none⟩ = some (.int .i64 (l.getD j 0)) := by
        intro b off l h j hj
        obtain ⟨b2, o2, e, _, h2⟩ := h j (l.getD j 0) (by simp [List.getD, List.getElem?_eq_getElem hj])
        cases e
        exact h2
      refine (Tryz.slices_Equal_int b off l.length c b' off' l'.length c' l l' w (Nat.le_refl _) (Nat.le_refl _) (by omega) (by omega) (cc hI) (cc hI')).mono ?_
      rintro e w' ⟨rfl, q, rfl⟩
      refine RetB.mk (p := l = l') (by simp) ?_
      exact ⟨rfl, rfl, rfl, Nat.le_refl _, fun _ _ => rfl⟩
  · refine (Tryz.slices_Equal_int_lens A A' l.length c l'.length c' w hlen).mono ?_
    rintro e w' ⟨rfl, rfl⟩
    exact RetB.mk (p := l = l') ⟨fun e => by simp at e, fun e => absurd (congrArg List.length e) hlen⟩ (Below.refl _ _)

theorem list_ne {α : Type} {M M' : List α} {k : Nat} {l l' : α} (h : M[k]? = some l) (h' : M'[k]? = some l') (hne : l ≠ l') : M ≠ M' := fun e => by
  subst e
  exact hne (Option.some.inj (h.symm.trans h'))
theorem list_eq {α : Type} {M M' : List α} (hlen : M.length = M'.length) (h : ∀ (j : Nat) l l', j < M.length → M[j]? = some l → M'[j]? = some l' → l = l') : M = M' := by
  apply List.ext_getElem?
  intro j
  by_cases hj : j < M.length
  · have h1 := List.getElem?_eq_getElem hj
    have h2 := List.getElem?_eq_getElem (show j < M'.length by omega)
    rw [h1, h2, h j _ _ hj h1 h2]
  · rw [List.getElem?_eq_none (by omega), List.getElem?_eq_none (by omega)]
set_option maxRecDepth 100000 in
set_option maxHeartbeats 2000000 in
theorem equalSS_any (A A' : Option Addr) (n n' c c' : Nat) (M M' : List (List Int)) (w : World) (hl : M.length = n) (hl' : M'.length = n') (hn : n ≤ 1048576) (hn' : n' ≤ 1048576) (ht : ∀ l ∈ M, l.length ≤ 1048576) (ht' : ∀ l ∈ M', l.length ≤ 1048576)
    (hM : RowsAt w w.heap.size A M) (hM' : RowsAt w w.heap.size A' M') :
    Calls Tryz.prog 48 #[.slice A n c, .slice A' n' c', .func (.func 52) #[] #[]] w (RetB w (M = M')) := by
  subst hl
  subst hl'
  by_cases hlen : M.length = M'.length
  · have hne : ((M.length : Int) != (M'.length : Int)) = false := by rw [hlen]; simp
    have HLE := Lib.hid hlen
    have HT := Lib.hid ht
    have HT' := Lib.hid ht'
    obtain ⟨m, hm⟩ : ∃ m, M'.length = m := ⟨_, rfl⟩
    have hk2 : M.length = m := hlen.trans hm
    have HM := Lib.hid hm
    rw [hk2] at hn hne ⊢
    rw [hm] at hn' hne ⊢
    clear hlen hm hk2 ht ht' hne
    have hne : ((m : Int) != (m : Int)) = false := by simp
    go_enter Tryz.func48, Tryz.ntmps48
    go_wp2_with fail
    go_loopw [17] (fun i wr => ∃ k : Nat, k ≤ m ∧ i = .int .i64 k ∧ Below w.heap.size w wr ∧ ∀ (j : Nat) l l', j < k → M[j]? = some l → M'[j]? = some l' → l = l') (fun i _ => m - (intOf i).toNat)
    case atStart => exact ⟨0, Nat.zero_le _, rfl, Below.refl _ _, fun j l l' hj => by omega⟩
    case round =>
      obtain ⟨k, hk, rfl, hbr, hin⟩ := hrel
      have HI := Lib.hid hin
      clear hin
      by_cases hlt : k < m
      · obtain ⟨l, hs⟩ : ∃ l, M[k]? = some l := ⟨_, List.getElem?_eq_getElem (by have := HLE.out; have := HM.out; omega)⟩
        obtain ⟨l', hs'⟩ : ∃ l', M'[k]? = some l' := ⟨_, List.getElem?_eq_getElem (by have := HM.out; omega)⟩
        have hMr := hM.below hbr
        have hMr' := hM'.below hbr
        obtain ⟨b, off, A1, c1, rfl, hb, d0, hlc, hI⟩ := hMr k l hs
        obtain ⟨b', off', A1', c1', rfl, hb', d0', hlc', hI'⟩ := hMr' k l' hs'
        have k0 : (0 : Int) ≤ (k : Int) := by omega
        have k1 : (k : Int) < (m : Int) := by omega
        have h1 := HT.out l (List.mem_of_getElem? hs)
        have h2 := HT'.out l' (List.mem_of_getElem? hs')
        have HS := Lib.hid hs
        have HS' := Lib.hid hs'
        clear hs hs' hM hM' hMr hMr'
        by_cases hll : l = l'
        · have HLL := Lib.hid hll
          clear hll
          go_wp2_with fail
          refine (callB_yes (equalI_any A1 A1' c1 c1' l l' _ h1 h2 (hI.mono hbr.size) (hI'.mono hbr.size)) HLL.out).mono ?_
          rintro e w2 ⟨rfl, hb2⟩
          have hB := hbr.trans (hb2.mono hbr.size)
          go_wp2_with fail
          go_roundw
          case rel =>
            refine ⟨k + 1, by omega, by go_num, hB, fun j q q' hj hq hq' => ?_⟩
            by_cases e : j = k
            · subst e
              obtain rfl := Option.some.inj (HS.out.symm.trans hq)
              obtain rfl := Option.some.inj (HS'.out.symm.trans hq')
              exact HLL.out
            · exact HI.out j q q' (by omega) hq hq'
          case measure => simp [intOf]; omega
        · have HLL := Lib.hid hll
          clear hll
          go_wp2_with fail
          refine (callB_no (equalI_any A1 A1' c1 c1' l l' _ h1 h2 (hI.mono hbr.size) (hI'.mono hbr.size)) HLL.out).mono ?_
          rintro e w2 ⟨rfl, hb2⟩
          have hB := hbr.trans (hb2.mono hbr.size)
          go_wp2_with fail
          go_ret
          exact RetB.mk (p := M = M') ⟨fun e => by simp at e, fun e => absurd e (list_ne HS.out HS'.out HLL.out)⟩ hB
      · obtain rfl : m = k := by omega
        clear hM hM'
        go_wp2_with fail
        go_ret
        exact RetB.mk (p := M = M') ⟨fun _ => list_eq (by rw [HLE.out, HM.out]) (fun j l l' hj => HI.out j l l' (by have := HLE.out; have := HM.out; omega)), fun _ => rfl⟩ hbr
  · have hne : ((M.length : Int) != (M'.length : Int)) = true := by simp; omega
    have hne' : (M.length != M'.length) = true := by simpa using hlen
    go_enter Tryz.func48, Tryz.ntmps48
    go_wp2_with fail
    go_ret
    exact RetB.mk (p := M = M') ⟨fun e => by simp at e, fun e => absurd (congrArg List.length e) hlen⟩ (Below.refl _ _)
end Go.Proofs.YtfkifcjjkaenhaaGreatDoor
