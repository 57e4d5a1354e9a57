/- Whether two lists, or two lists of lists, are the same: the model's own. -/
import Derived.Test.YtfkifcjjkaenhaaGreatDoorRead
import Derived.BigQuiet
import Derived.Deep.QuietTactic
set_option linter.all false
namespace Go.Proofs.YtfkifcjjkaenhaaGreatDoor
open Go.RowKit

set_option maxRecDepth 100000 in
set_option maxHeartbeats 4000000 in
theorem l1Same_any (A A' : Option Addr) (c c' : Nat) (l l' : List Int) (w : World) (_hn : l.length ≤ 1048576) (hn' : l'.length ≤ 1048576) (hI : IntsAt w w.heap.size A l) (hI' : IntsAt w w.heap.size A' l') :
    Calls Tryz.prog 54 #[.slice A l.length c, .slice A' l'.length c'] w (RetB w (l = l')) := by
  by_cases hlen : l.length = l'.length
  · have HLE := Lib.hid hlen
    obtain ⟨m, hm⟩ : ∃ m, l'.length = m := ⟨_, rfl⟩
    have hk2 : l.length = m := hlen.trans hm
    have HM := Lib.hid hm
    rw [hk2] at _hn ⊢
    rw [hm] at hn' ⊢
    clear hlen hm hk2
    have hne : ((m : Int) != (m : Int)) = false := by simp
    go_enter Tryz.func54, Tryz.ntmps54
    go_wp2_with fail
    go_loopw [13] (fun i wr => ∃ k : Nat, k ≤ m ∧ i = .int .i64 k ∧ Below w.heap.size w wr ∧ ∀ (j : Nat) s s', j < k → l[j]? = some s → l'[j]? = some s' → s = s') (fun i _ => m - (intOf i).toNat)
    case atStart => exact ⟨0, Nat.zero_le _, rfl, Below.refl _ _, fun j s s' hj => by omega⟩
    case round =>
      obtain ⟨k, hk, rfl, hbr, hin⟩ := hrel
      have HI := Lib.hid hin
      clear hin
      by_cases hlt : k < m
      · obtain ⟨s, hs⟩ : ∃ s, l[k]? = some s := ⟨_, List.getElem?_eq_getElem (by have := HLE.out; have := HM.out; omega)⟩
        obtain ⟨s', hs'⟩ : ∃ s', l'[k]? = some s' := ⟨_, List.getElem?_eq_getElem (by have := HM.out; omega)⟩
        obtain ⟨b, off, rfl, hb, c0⟩ := (hI.below hbr) k s hs
        obtain ⟨b', off', rfl, hb', d0⟩ := (hI'.below hbr) k s' hs'
        have C0 : ∀ u : Later w.heap.size wr, u.val.cell? ⟨b, off + k, none⟩ = some (.int .i64 s) := fun u => (u.ok.cell (p := ⟨b, _, none⟩) hb).trans c0
        have D0 : ∀ u : Later w.heap.size wr, u.val.cell? ⟨b', off' + k, none⟩ = some (.int .i64 s') := fun u => (u.ok.cell (p := ⟨b', _, none⟩) hb').trans d0
        have k0 : (0 : Int) ≤ (k : Int) := by omega
        have k1 : (k : Int) < (m : Int) := by omega
        have HS := Lib.hid hs
        have HS' := Lib.hid hs'
        clear hs hs' hI hI' c0 d0
        cases hq : (s == s')
        · have HQ := Lib.hid hq
          have hq2 : (s != s') = true := by simp [bne, hq]
          clear hq
          go_wp2_with fail
          refine wp_region_sub w.heap.size (by kernel_rfl) (by kernel_rfl) ?_
          repeat (first | go_big_quiet_step (fail) | quiet_step (fail))
          refine wpQuiet_nil ?_
          rintro _ ⟨⟨w2, hb2⟩, rfl⟩
          go_wp2_with fail
          go_ret
          refine RetB.mk (p := l = l') ⟨fun e => by simp at e, fun e => ?_⟩ (hbr.trans hb2)
          have := list_ne HS.out HS'.out (fun e => by have := HQ.out; rw [e] at this; simp at this)
          exact absurd e this
        · have HQ := Lib.hid hq
          have hq2 : (s != s') = false := by simp [bne, hq]
          clear hq
          go_wp2_with fail
          refine wp_region_sub w.heap.size (by kernel_rfl) (by kernel_rfl) ?_
          repeat (first | go_big_quiet_step (fail) | quiet_step (fail))
          refine wpQuiet_nil ?_
          rintro _ ⟨⟨w2, hb2⟩, rfl⟩
          go_wp2_with fail
          go_roundw
          case rel =>
            refine ⟨k + 1, by omega, by go_num, hbr.trans hb2, fun j q q' hj hq hq' => ?_⟩
            by_cases e : j = k
            · subst e
              obtain rfl := Option.some.inj (HS.out.symm.trans hq)
              obtain rfl := Option.some.inj (HS'.out.symm.trans hq')
              exact by simpa using HQ.out
            · exact HI.out j q q' (by omega) hq hq'
          case measure => simp [intOf]; omega
      · obtain rfl : m = k := by omega
        clear hI hI'
        go_wp2_with fail
        go_ret
        exact RetB.mk (p := l = l') ⟨fun _ => list_eq (by rw [HLE.out]) (fun j s s' hj => HI.out j s s' (by have := HLE.out; have := HM.out; omega)), fun _ => rfl⟩ hbr
  · have hne : ((l.length : Int) != (l'.length : Int)) = true := by simp; omega
    have hne' : (l.length != l'.length) = true := by simpa using hlen
    go_enter Tryz.func54, Tryz.ntmps54
    go_wp2_with fail
    go_ret
    exact RetB.mk (p := l = l') ⟨fun e => by simp at e, fun e => absurd (congrArg List.length e) hlen⟩ (Below.refl _ _)
set_option maxRecDepth 100000 in
set_option maxHeartbeats 2000000 in
theorem bkRows_any (A A' : Option Addr) (n n' c c' : Nat) (M M' : List (List Int)) (w : World) (hl : M.length = n) (hl' : M'.length = n') (hn : n ≤ 1048576) (hn' : n' ≤ 1048576) (ht : ∀ l ∈ M, l.length ≤ 1048576) (ht' : ∀ l ∈ M', l.length ≤ 1048576)
    (hM : RowsAt w w.heap.size A M) (hM' : RowsAt w w.heap.size A' M') :
    Calls Tryz.prog 35 #[.slice A n c, .slice A' n' c'] w (RetB w (M = M')) := by
  subst hl
  subst hl'
  by_cases hlen : M.length = M'.length
  · have hne : ((M.length : Int) != (M'.length : Int)) = false := by rw [hlen]; simp
    have HLE := Lib.hid hlen
    have HT := Lib.hid ht
    have HT' := Lib.hid ht'
    obtain ⟨m, hm⟩ : ∃ m, M'.length = m := ⟨_, rfl⟩
    have hk2 : M.length = m := hlen.trans hm
    have HM := Lib.hid hm
    rw [hk2] at hn hne ⊢
    rw [hm] at hn' hne ⊢
    clear hlen hm hk2 ht ht' hne
    have hne : ((m : Int) != (m : Int)) = false := by simp
    go_enter Tryz.func35, Tryz.ntmps35
    go_wp2_with fail
    go_loopw [14] (fun i wr => ∃ k : Nat, k ≤ m ∧ i = .int .i64 k ∧ Below w.heap.size w wr ∧ ∀ (j : Nat) l l', j < k → M[j]? = some l → M'[j]? = some l' → l = l') (fun i _ => m - (intOf i).toNat)
    case atStart => exact ⟨0, Nat.zero_le _, rfl, Below.refl _ _, fun j l l' hj => by omega⟩
    case round =>
      obtain ⟨k, hk, rfl, hbr, hin⟩ := hrel
      have HI := Lib.hid hin
      clear hin
      by_cases hlt : k < m
      · obtain ⟨l, hs⟩ : ∃ l, M[k]? = some l := ⟨_, List.getElem?_eq_getElem (by have := HLE.out; have := HM.out; omega)⟩
        obtain ⟨l', hs'⟩ : ∃ l', M'[k]? = some l' := ⟨_, List.getElem?_eq_getElem (by have := HM.out; omega)⟩
        have hMr := hM.below hbr
        have hMr' := hM'.below hbr
        obtain ⟨b, off, A1, c1, rfl, hb, d0, hlc, hI⟩ := hMr k l hs
        obtain ⟨b', off', A1', c1', rfl, hb', d0', hlc', hI'⟩ := hMr' k l' hs'
        have k0 : (0 : Int) ≤ (k : Int) := by omega
        have k1 : (k : Int) < (m : Int) := by omega
        have h1 := HT.out l (List.mem_of_getElem? hs)
        have h2 := HT'.out l' (List.mem_of_getElem? hs')
        have HS := Lib.hid hs
        have HS' := Lib.hid hs'
        clear hs hs' hM hM' hMr hMr'
        by_cases hll : l = l'
        · have HLL := Lib.hid hll
          clear hll
          go_wp2_with fail
          refine (callB_yes (l1Same_any A1 A1' c1 c1' l l' _ h1 h2 (hI.mono hbr.size) (hI'.mono hbr.size)) HLL.out).mono ?_
          rintro e w2 ⟨rfl, hb2⟩
          have hB := hbr.trans (hb2.mono hbr.size)
          go_wp2_with fail
          go_roundw
          case rel =>
            refine ⟨k + 1, by omega, by go_num, hB, fun j q q' hj hq hq' => ?_⟩
            by_cases e : j = k
            · subst e
              obtain rfl := Option.some.inj (HS.out.symm.trans hq)
              obtain rfl := Option.some.inj (HS'.out.symm.trans hq')
              exact HLL.out
            · exact HI.out j q q' (by omega) hq hq'
          case measure => simp [intOf]; omega
        · have HLL := Lib.hid hll
          clear hll
          go_wp2_with fail
          refine (callB_no (l1Same_any A1 A1' c1 c1' l l' _ h1 h2 (hI.mono hbr.size) (hI'.mono hbr.size)) HLL.out).mono ?_
          rintro e w2 ⟨rfl, hb2⟩
          have hB := hbr.trans (hb2.mono hbr.size)
          go_wp2_with fail
          go_ret
          exact RetB.mk (p := M = M') ⟨fun e => by simp at e, fun e => absurd e (list_ne HS.out HS'.out HLL.out)⟩ hB
      · obtain rfl : m = k := by omega
        clear hM hM'
        go_wp2_with fail
        go_ret
        exact RetB.mk (p := M = M') ⟨fun _ => list_eq (by rw [HLE.out, HM.out]) (fun j l l' hj => HI.out j l l' (by have := HLE.out; have := HM.out; omega)), fun _ => rfl⟩ hbr
  · have hne : ((M.length : Int) != (M'.length : Int)) = true := by simp; omega
    have hne' : (M.length != M'.length) = true := by simpa using hlen
    go_enter Tryz.func35, Tryz.ntmps35
    go_wp2_with fail
    go_ret
    exact RetB.mk (p := M = M') ⟨fun e => by simp at e, fun e => absurd (congrArg List.length e) hlen⟩ (Below.refl _ _)
end Go.Proofs.YtfkifcjjkaenhaaGreatDoor
