/- The program's IsNet. -/
import Derived.Test.YtbkfenhiaedlgaaDoorNetP
import Derived.Test.YtbkfenhiaedlgaaDoorNetK
import Derived.Deep.OwnRows
set_option linter.all false
namespace Go.Proofs.YtbkfenhiaedlgaaDoor
open Go.RowKit Go.Maps

theorem zip_zero (L : List Wi) : L.zip (List.replicate L.length (0 : Int)) = zps L := by
  unfold zps
  induction L with
  | nil => rfl
  | cons a r ih => rw [List.length_cons, List.replicate_succ, List.zip_cons_cons, ih]; rfl
theorem made_ints (m : Nat) : (madeCells #[Value.int .i64 0] m).toList = ints (List.replicate m 0) := by
  rw [toList_madeCells_one]; simp [ints]
theorem ints_new (w : World) (m : Nat) (t : TypeId) : IntsAt (w.alloc (.cells (madeCells #[Value.int .i64 0] m) t)) (w.heap.size + 1) (some ⟨w.heap.size, 0, none⟩) (List.replicate m 0) := by
  intro i z hz
  refine ⟨w.heap.size, 0, rfl, Nat.lt_succ_self _, ?_⟩
  rw [Nat.zero_add]
  have e := congrArg (fun l => l[i]?) (made_ints m)
  simp only [Array.getElem?_toList] at e
  have h2 : (ints (List.replicate m 0))[i]? = some (.int .i64 z) := by unfold ints; rw [List.getElem?_map, hz]; rfl
  rw [h2] at e
  simp [e]
set_option maxRecDepth 100000 in
set_option maxHeartbeats 4000000 in
theorem isNet_any (N : Int) (A : Option Addr) (n c : Nat) (L : List Wi) (w : World) (hl : L.length = n) (hL : WisAt w w.heap.size A L) (hwf : wfI N) (hn9 : n ≤ 9223372036854775807) :
    Calls Tryd.prog 74 #[.agg #[.int .i64 N, .slice A n c]] w (RetB w (NetG N L)) := by
  subst hl
  have hfin : Hid (NetG N L ↔ (2 ≤ N ∧ N ≤ 12) ∧ L.length ≤ 30 ∧ (∀ w ∈ L, WOk N w) ∧ cntS (resS N.toNat (zps L)) = N.toNat) := Lib.hid netG_iff
  obtain ⟨W1, hW1⟩ : ∃ W1, W1 = w.alloc (.cells #[.int .i64 N, .slice A L.length c] 51) := ⟨_, rfl⟩
  have q1 : Nx w.heap.size W1 N A L.length c := by rw [hW1]; exact Nx.start _ _ _ _ _ _
  have hB1 : Below w.heap.size w W1 := by rw [hW1]; exact (Below.refl _ _).alloc (Nat.le_refl _) _
  obtain ⟨B, hB⟩ : ∃ B, w.heap.size = B := ⟨_, rfl⟩
  rw [hB] at q1 hL hB1
  by_cases h1 : 2 ≤ N
  · by_cases h2 : N ≤ 12
    · obtain ⟨m, rfl⟩ := Int.eq_ofNat_of_zero_le (show 0 ≤ N by omega)
      by_cases h3 : (L.length : Int) ≤ 30
      · obtain ⟨hz, n0, n1⟩ := id q1
        go_enter Tryd.func74, Tryd.ntmps74
        go_wp2_with fail
        rw [← hW1]
        clear hW1
        go_loopw [22] (fun i wr => ∃ (k : Nat), k ≤ L.length ∧ i = .int .i64 k ∧ Below B w wr ∧ Nx B wr m A L.length c ∧ ∀ (j : Nat) s, j < k → L[j]? = some s → WOk m s) (fun i _ => L.length - (intOf i).toNat)
        case atStart => exact ⟨0, Nat.zero_le _, rfl, hB1, q1, fun j s h => by omega⟩
        case round =>
          obtain ⟨k, hk, rfl, hb, q, hall⟩ := hrel
          have HA := Lib.hid hall
          clear hall q1 hB1 hz n0 n1
          obtain ⟨hz, n0, n1⟩ := id q
          by_cases hlt : k < L.length
          · obtain ⟨s, hs⟩ : ∃ s, L[k]? = some s := ⟨_, List.getElem?_eq_getElem hlt⟩
            obtain ⟨b, off, rfl, hbb, c0, c1⟩ := (hL.below hb) k s hs
            have k0 : (0 : Int) ≤ (k : Int) := by omega
            have k1 : (k : Int) < (L.length : Int) := by omega
            have HS := Lib.hid hs
            obtain ⟨x, y⟩ := s
            clear hs hL
            go_wp2_with fail
            have hb5 : Below wr.heap.size wr (wr.alloc (.cells #[.int .i64 x, .int .i64 y] 110)) := (Below.refl _ _).alloc (Nat.le_refl _) _
            by_cases hw : WOk m ⟨x, y⟩
            · refine (callB_yes (isWire_any x y m _) hw).mono ?_
              rintro e w6 ⟨rfl, hb6⟩
              have hb7 : Below wr.heap.size wr w6 := hb5.trans (hb6.mono hb5.size)
              have hb8 := hb.trans (hb7.mono (Nat.le_of_lt hz))
              have q8 := q.next hb7
              clear hb5 hb6 hb7 hb q n0 n1 hz
              go_wp2_with fail
              go_roundw
              case rel =>
                refine ⟨k + 1, by omega, by go_num, hb8, q8, fun j s hj hs => ?_⟩
                by_cases e : j = k
                · subst e
                  obtain rfl := Option.some.inj (HS.out.symm.trans hs)
                  exact hw
                · exact HA.out j s (by omega) hs
              case measure => simp [intOf]; omega
            · have HNO := Lib.hid (netG_no3 (List.mem_of_getElem? HS.out) hw)
              refine (callB_no (isWire_any x y m _) hw).mono ?_
              rintro e w6 ⟨rfl, hb6⟩
              have hb7 : Below wr.heap.size wr w6 := hb5.trans (hb6.mono hb5.size)
              have hb8 := hb.trans (hb7.mono (Nat.le_of_lt hz))
              clear hw
              go_wp2_with fail
              go_ret
              exact RetB.no HNO.out (by rw [hB]; exact hb8)
          · obtain rfl : k = L.length := by omega
            have HALL : Hid (∀ s ∈ L, WOk m s) := Lib.hid fun s hs => by
              obtain ⟨j, hj, rfl⟩ := List.mem_iff_getElem.1 hs
              exact HA.out j _ hj (List.getElem?_eq_getElem hj)
            have HIF : Hid (NetG m L ↔ cntS (resS m (zps L)) = m) := Lib.hid ⟨fun h => by simpa using h.2.2.2, fun h => hfin.out.2 ⟨⟨h1, h2⟩, by omega, HALL.out, by simpa using h⟩⟩
            have hmk := run_make_row' (P := Tryd.prog) 89 3 (.int .i64 0) 8 Tryd.underlying89 infoInt rfl .i64 .i64 L.length (by omega) (by omega)
            have hLd : ∀ w', Below wr.heap.size wr w' → WisAt w' w'.heap.size A L := fun w' h => ((hL.below hb).below (h.mono (Nat.le_of_lt hz))).mono (Nat.le_trans (Nat.le_of_lt hz) h.size)
            go_wp2_with fail
            have hb7 := ((Below.refl wr.heap.size wr).alloc (Nat.le_refl _) (.cells (madeCells #[Value.int .i64 0] L.length) 3)).drew
            have hI7 : IntsAt (wr.alloc (.cells (madeCells #[Value.int .i64 0] L.length) 3)).drew (wr.alloc (.cells (madeCells #[Value.int .i64 0] L.length) 3)).drew.heap.size (some ⟨wr.heap.size, 0, none⟩) (List.replicate L.length 0) :=
              ((ints_new wr L.length 3).below (Below.refl _ _).drew).mono (by simp)
            have n0' := fun (w' : World) (h : Below wr.heap.size wr w') => (h.cell (p := ⟨B, 0, none⟩) hz).trans n0
            go_region_with (go_at_call 128; refine (spread_any m A L.length c L _ _ (List.replicate L.length 0) _ rfl (by simp) (by omega) (by omega) (hLd _ hb7) hI7 HALL.out (fun x hx => by have := List.eq_of_mem_replicate hx; omega)).mono ?_; rintro e w6 ⟨D, rfl, ho6, hm6, hb6⟩; rw [zip_zero] at ho6 hm6; have hlen := ho6.len Tryd.underlying163 3; rw [hm6.2.2] at hlen; obtain ⟨r, hr⟩ : ∃ r, cntS (resS m (zps L)) = r := ⟨_, rfl⟩; rw [hr] at hlen; have HR := Lib.hid hr; have hB6 := hb7.trans (hb6.mono hb7.size); have n00 := n0' _ hB6; have hlen2 : (Builtin.len_ #[163] 3 #[.map (some (wr.heap.size + 1 + 1))]).run Tryd.prog w6 = .ok (.int .i64 (r : Int)) w6 := (by simpa using hlen); clear ho6 hm6 hb6 hlen hr)
            all_goals
              go_wp2_with fail
              go_ret
              refine RetB.mk ?_ (by rw [hB]; exact hb.trans (hB6.mono (Nat.le_of_lt hz)))
              rw [HIF.out, HR.out]
              simp only [beq_iff_eq, Int.natCast_inj]
      · have HNO := Lib.hid (netG_no2 (N := m) (L := L) (fun h => h3 h.2))
        obtain ⟨hz, n0, n1⟩ := id q1
        go_enter Tryd.func74, Tryd.ntmps74
        go_wp2_with fail
        go_ret
        exact RetB.no HNO.out (by rw [hB]; first | exact hB1 | (rw [← hW1]; exact hB1))
    · have HNO := Lib.hid (netG_no1 (L := L) (fun h => h2 h.2))
      have h2' : 12 < N := by omega
      obtain ⟨hz, n0, n1⟩ := id q1
      go_enter Tryd.func74, Tryd.ntmps74
      go_wp2_with fail
      go_ret
      exact RetB.no HNO.out (by rw [hB]; first | exact hB1 | (rw [← hW1]; exact hB1))
  · have HNO := Lib.hid (netG_no1 (L := L) (fun h => h1 h.1))
    have h1' : N < 2 := by omega
    obtain ⟨hz, n0, n1⟩ := id q1
    go_enter Tryd.func74, Tryd.ntmps74
    go_wp2_with fail
    go_ret
    exact RetB.no HNO.out (by rw [hB]; first | exact hB1 | (rw [← hW1]; exact hB1))
end Go.Proofs.YtbkfenhiaedlgaaDoor
