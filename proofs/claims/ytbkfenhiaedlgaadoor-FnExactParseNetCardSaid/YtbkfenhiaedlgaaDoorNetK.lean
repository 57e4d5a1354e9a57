/- The model's neGood. -/
import Derived.Test.YtbkfenhiaedlgaaDoorNetJ
set_option linter.all false
namespace Go.Proofs.YtbkfenhiaedlgaaDoor
open Go.RowKit

theorem netG_no1 {N : Int} {L : List Wi} (h : ¬ (2 ≤ N ∧ N ≤ 12)) : ¬ NetG N L := fun g => h g.1
theorem netG_no2 {N : Int} {L : List Wi} (h : ¬ (1 ≤ (L.length : Int) ∧ (L.length : Int) ≤ 30)) : ¬ NetG N L := fun g => h (by have := g.2.1; omega)
theorem netG_no3 {N : Int} {L : List Wi} {s : Wi} (hs : s ∈ L) (h : ¬ WOk N s) : ¬ NetG N L := fun g => h (g.2.2.1 s hs)
theorem inB_not {a b c : Int} (h : ¬ (b ≤ a ∧ a ≤ c)) : inB a b c = false := by
  cases e : inB a b c with
  | false => rfl
  | true => exact absurd (inB_iff.1 e) h
theorem RetB.no {w w' : World} {p : Prop} (h : ¬ p) (hb : Below w.heap.size w w') : RetB w p (.returned (.bool false)) w' := RetB.mk ⟨(fun e => by cases e), (fun hp => absurd hp h)⟩ hb
set_option maxRecDepth 100000 in
set_option maxHeartbeats 4000000 in
theorem neGood_any (N : Int) (A : Option Addr) (n c : Nat) (L : List Wi) (w : World) (hl : L.length = n) (hn : n ≤ 1048576) (hL : WisAt w w.heap.size A L) :
    Calls Tryd.prog 71 #[.agg #[.int .i64 N, .slice A n c]] w (RetB w (NetG N L)) := by
  subst hl
  obtain ⟨W1, hW1⟩ : ∃ W1, W1 = w.alloc (.cells #[.int .i64 N, .slice A L.length c] 51) := ⟨_, rfl⟩
  have q1 : Nx w.heap.size W1 N A L.length c := by rw [hW1]; exact Nx.start _ _ _ _ _ _
  have hB1 : Below w.heap.size w W1 := by rw [hW1]; exact (Below.refl _ _).alloc (Nat.le_refl _) _
  obtain ⟨B, hB⟩ : ∃ B, w.heap.size = B := ⟨_, rfl⟩
  rw [hB] at q1 hL hB1
  by_cases h1 : 2 ≤ N ∧ N ≤ 12
  · have d1 := inB_iff.2 h1
    obtain ⟨m, rfl⟩ := Int.eq_ofNat_of_zero_le (show 0 ≤ N by omega)
    by_cases h2 : 1 ≤ (L.length : Int) ∧ (L.length : Int) ≤ 30
    · have d2 := inB_iff.2 h2
      obtain ⟨hz, n0, n1⟩ := id q1
      go_enter Tryd.func71, Tryd.ntmps71
      go_wp2_with fail
      rw [← hW1]
      clear hW1
      refine (l1In_any _ _ _ _).mono ?_
      rw [d1]
      rintro e w' ⟨rfl, rfl⟩
      go_wp2_with fail
      refine (l1In_any _ _ _ _).mono ?_
      rw [d2]
      rintro e w' ⟨rfl, rfl⟩
      go_wp2_with fail
      go_loopw [19] (fun i wr => ∃ (k : Nat), k ≤ L.length ∧ i = .int .i64 k ∧ Below B w wr ∧ Nx B wr m A L.length c ∧ ∀ (j : Nat) s, j < k → L[j]? = some s → WOk m s) (fun i _ => L.length - (intOf i).toNat)
      case atStart => exact ⟨0, Nat.zero_le _, rfl, hB1, q1, fun j s h => by omega⟩
      case round =>
        obtain ⟨k, hk, rfl, hb, q, hall⟩ := hrel
        have HA := Lib.hid hall
        clear hall q1 hB1 hz n0 n1
        obtain ⟨hz, n0, n1⟩ := id q
        by_cases hlt : k < L.length
        · obtain ⟨s, hs⟩ : ∃ s, L[k]? = some s := ⟨_, List.getElem?_eq_getElem hlt⟩
          obtain ⟨b, off, rfl, hbb, c0, c1⟩ := (hL.below hb) k s hs
          have k0 : (0 : Int) ≤ (k : Int) := by omega
          have k1 : (k : Int) < (L.length : Int) := by omega
          have HS := Lib.hid hs
          obtain ⟨x, y⟩ := s
          clear hs hL
          go_wp2_with fail
          have hb5 : Below wr.heap.size wr (wr.alloc (.cells #[.int .i64 x, .int .i64 y] 110)) := (Below.refl _ _).alloc (Nat.le_refl _) _
          by_cases hw : WOk m ⟨x, y⟩
          · refine (callB_yes (neWire_any x y m _ _ _ _ (by omega)) hw).mono ?_
            rintro e w6 ⟨rfl, hb6⟩
            have hb7 : Below wr.heap.size wr w6 := hb5.trans (hb6.mono hb5.size)
            have hb8 := hb.trans (hb7.mono (Nat.le_of_lt hz))
            have q8 := q.next hb7
            clear hb5 hb6 hb7 hb q n0 n1 hz
            go_wp2_with fail
            go_roundw
            case rel =>
              refine ⟨k + 1, by omega, by go_num, hb8, q8, fun j s hj hs => ?_⟩
              by_cases e : j = k
              · subst e
                obtain rfl := Option.some.inj (HS.out.symm.trans hs)
                exact hw
              · exact HA.out j s (by omega) hs
            case measure => simp [intOf]; omega
          · have HNO := Lib.hid (netG_no3 (List.mem_of_getElem? HS.out) hw)
            refine (callB_no (neWire_any x y m _ _ _ _ (by omega)) hw).mono ?_
            rintro e w6 ⟨rfl, hb6⟩
            have hb7 : Below wr.heap.size wr w6 := hb5.trans (hb6.mono hb5.size)
            have hb8 := hb.trans (hb7.mono (Nat.le_of_lt hz))
            clear hw
            go_wp2_with fail
            go_ret
            exact RetB.no HNO.out (by rw [hB]; exact hb8)
        · obtain rfl : k = L.length := by omega
          have HALL : Hid (∀ s ∈ L, WOk m s) := Lib.hid fun s hs => by
            obtain ⟨j, hj, rfl⟩ := List.mem_iff_getElem.1 hs
            exact HA.out j _ hj (List.getElem?_eq_getElem hj)
          have HIF : Hid (cntS (resS m (zps L)) = m ↔ NetG m L) := Lib.hid ⟨fun h => ⟨h1, by omega, HALL.out, by simpa using h⟩, fun h => by simpa using h.2.2.2⟩
          go_wp2_with fail
          refine (neJoined_any m A L.length c L wr rfl (by omega) (by omega) ((hL.below hb).mono (Nat.le_of_lt hz)) HALL.out).mono ?_
          rintro e w6 hret
          obtain ⟨rfl, hb6⟩ := hret.iff HIF.out
          have hb8 := hb.trans (hb6.mono (Nat.le_of_lt hz))
          clear hret
          go_wp2_with fail
          go_ret
          exact ⟨rfl, by rw [hB]; exact hb8⟩
    · have d2 := inB_not h2
      have HNO := Lib.hid (netG_no2 (N := m) h2)
      obtain ⟨hz, n0, n1⟩ := id q1
      go_enter Tryd.func71, Tryd.ntmps71
      go_wp2_with fail
      refine (l1In_any _ _ _ _).mono ?_
      rw [d1]
      rintro e w' ⟨rfl, rfl⟩
      go_wp2_with fail
      refine (l1In_any _ _ _ _).mono ?_
      rw [d2]
      rintro e w' ⟨rfl, rfl⟩
      go_wp2_with fail
      go_ret
      exact RetB.no HNO.out (by rw [hB]; first | exact hB1 | (rw [← hW1]; exact hB1))
  · have d1 := inB_not h1
    have HNO := Lib.hid (netG_no1 (L := L) h1)
    obtain ⟨hz, n0, n1⟩ := id q1
    go_enter Tryd.func71, Tryd.ntmps71
    go_wp2_with fail
    refine (l1In_any _ _ _ _).mono ?_
    rw [d1]
    rintro e w' ⟨rfl, rfl⟩
    go_wp2_with fail
    go_ret
    exact RetB.no HNO.out (by rw [hB]; first | exact hB1 | (rw [← hW1]; exact hB1))
end Go.Proofs.YtbkfenhiaedlgaaDoor
