/- RatioOfQuotients of the model. -/
import Derived.Test.YtakghnaklimliaaQuo
namespace Go.Proofs.Ytakghnaklimliaa
open Go.RowKit

set_option maxRecDepth 100000 in
set_option maxHeartbeats 8000000 in
theorem specQuo_any (A : Option Addr) (n c : Nat) (L : List Int) (w : World) (hl : L.length = n) (hn : n ≤ 1048576) (hL : IntsAt w w.heap.size A L) :
    Calls Try.prog 15 #[.slice A n c] w (RetQ w L) := by
  by_cases hin : 1 ≤ (n : Int) ∧ (n : Int) ≤ 20
  case neg =>
    have hR : quoR L = (0, 0, false) := quoR_no fun h => hin (by have := h.1; have := h.2.1; omega)
    have hib : inB (n : Int) 1 20 = false := by rw [← Bool.not_eq_true]; intro h; exact hin (inB_iff.1 h)
    have HR := Lib.hid hR
    have HB := Lib.hid hib
    clear hR hib hin hL hl
    go_enter Try.func15, Try.ntmps15
    go_wp2_with fail
    refine (l1In_any _ _ _ _).mono ?_
    rw [HB.out]
    rintro e w' ⟨rfl, rfl⟩
    go_wp2_with fail
    refine bodyPost_ret (v := .tuple #[.int .i64 0, .int .i64 0, .bool false]) (by simp [results, Try.results15, go_sem]) rfl ?_
    exact RetQ.no HR.out (Below.refl _ _)
  have hib : inB (n : Int) 1 20 = true := inB_iff.2 hin
  have HB := Lib.hid hib
  obtain ⟨m, rfl⟩ : ∃ m, n = m + 1 := ⟨n - 1, by omega⟩
  have hcast : ((m + 1 : Nat) : Int) = (m : Int) + 1 := by omega
  rw [hcast] at HB
  obtain ⟨z, hz⟩ : ∃ z, L[m]? = some z := ⟨_, List.getElem?_eq_getElem (by omega)⟩
  obtain ⟨b, off, rfl, hb, c0⟩ := hL m z hz
  have hcs : ∀ W, Below w.heap.size w W → ∀ j q, L[j]? = some q → W.cell? ⟨b, off + j, none⟩ = some (.int .i64 q) := by
    intro W hB j q hq
    obtain ⟨b', off', e, _, cj⟩ := hL j q hq
    cases e
    exact (hB.cell (p := ⟨b, _, none⟩) hb).trans cj
  have HCS := Lib.hid hcs
  have hAll := l1All_any (some ⟨b, off, none⟩) (m + 1) c L 1 1000 w hl hn hL
  have hzg : L.getD (L.length - 1) 0 = z := by rw [hl]; simp [List.getD, hz]
  by_cases hall : ∀ s ∈ L, (1 : Int) ≤ s ∧ s ≤ 1000
  case neg =>
    have hR : quoR L = (0, 0, false) := by
      by_cases hk : QOk L
      · cases hq : quoF L with
        | none => exact quoR_none hq
        | some p =>
          obtain ⟨a, d⟩ := p
          obtain ⟨_, _, _, _, h5⟩ := quoF_bnd hk.2.2.1 hq
          exact absurd (fun s hs => ⟨hk.2.2.1 s hs, h5 s hs⟩) hall
      · exact quoR_no hk
    have HR := Lib.hid hR
    have HA := Lib.hid (callB_no hAll hall)
    clear hR hall hAll hcs hzg hz c0 hb hL hl hin hib
    go_enter Try.func15, Try.ntmps15
    go_wp2_with (first
      | (go_at_call 41; refine (l1In_any _ _ _ _).mono ?_; rw [HB.out]; rintro e w' ⟨rfl, rfl⟩)
      | (go_at_call 42; refine HA.out.mono ?_; rintro e w2 ⟨rfl, hb2⟩))
    refine bodyPost_ret (v := .tuple #[.int .i64 0, .int .i64 0, .bool false]) (by simp [results, Try.results15, go_sem]) rfl ?_
    exact RetQ.no HR.out hb2
  have HA := Lib.hid (callB_yes hAll hall)
  have hk1 : QOk L ↔ (m = 0 ∨ 2 ≤ z) := by
    unfold QOk
    rw [hzg, hl]
    constructor
    · rintro ⟨_, _, _, h4⟩; omega
    · intro h4; exact ⟨by omega, by omega, fun q hq => (hall q hq).1, by omega⟩
  have hz1 := hall z (List.mem_of_getElem? hz)
  have i1 : (m : Int) < (m : Int) + 1 := by omega
  have i0 : (0 : Int) ≤ (m : Int) := by omega
  by_cases hbad : 0 < m ∧ z < 2
  · have hR : quoR L = (0, 0, false) := quoR_no fun h => by have := hk1.1 h; omega
    have HR := Lib.hid hR
    have d1 : (1 : Int) < (m : Int) + 1 := by omega
    have d2 : z < 2 := hbad.2
    have HZ := Lib.hid hz
    clear hR hall hAll hcs hzg hz c0 hk1 hbad hz1 hL hl hin hib
    go_enter Try.func15, Try.ntmps15
    go_wp2_with (first
      | (go_at_call 41; refine (l1In_any _ _ _ _).mono ?_; rw [HB.out]; rintro e w' ⟨rfl, rfl⟩)
      | (go_at_call 42; refine HA.out.mono ?_; rintro e w2 ⟨rfl, hb2⟩; have cz := HCS.out w2 hb2 m z HZ.out))
    refine bodyPost_ret (v := .tuple #[.int .i64 0, .int .i64 0, .bool false]) (by simp [results, Try.results15, go_sem]) rfl ?_
    exact RetQ.no HR.out hb2
  have hok : QOk L := hk1.2 (by omega)
  have HO := Lib.hid hok
  have hq0 : quoF (L.drop m) = some (z, 1) := by
    rw [quoF_at hz, List.drop_eq_nil_of_le (by omega)]
    unfold quoF qStep
    simp
    omega
  have HQ0 := Lib.hid hq0
  have HZ := Lib.hid hz
  have HAL := Lib.hid hall
  have HL := Lib.hid hl
  by_cases hm0 : m = 0
  · have d1 : ¬ (1 : Int) < (m : Int) + 1 := by omega
    clear hm0
    clear hall hAll hcs hzg hz c0 hk1 hbad hL hl hin hib hok hq0
    go_enter Try.func15, Try.ntmps15
    go_wp2_with (first
      | (go_at_call 41; refine (l1In_any _ _ _ _).mono ?_; rw [HB.out]; rintro e w' ⟨rfl, rfl⟩)
      | (go_at_call 42; refine HA.out.mono ?_; rintro e w2 ⟨rfl, hb2⟩; have cz := HCS.out w2 hb2 m z HZ.out))
    go_loopw [6, 7, 8] (fun x y i wr => ∃ (k : Nat) (a d : Int), k ≤ m ∧ x = .int .i64 a ∧ y = .int .i64 d ∧ i = .int .i64 ((k : Int) - 1) ∧ quoF (L.drop k) = some (a, d) ∧ 1 ≤ a ∧ a ≤ 1000 ∧ 0 ≤ d ∧ d ≤ 1000 ∧ Below w.heap.size w wr) (fun _ _ i _ => (intOf i + 1).toNat)
    case atStart => exact ⟨m, z, 1, Nat.le_refl _, rfl, rfl, (by first | rfl | go_num | (congr 1; omega)), HQ0.out, hz1.1, hz1.2, by decide, by decide, hb2⟩
    case round =>
      obtain ⟨k, a, d, hk, rfl, rfl, rfl, hq, h1, h2, h3, h4, hbr⟩ := hrel
      have HQ := Lib.hid hq
      clear hq cz hb2
      cases k with
      | zero =>
        have e : ((0 : Nat) : Int) - 1 = -1 := by omega
        rw [e]
        go_wp2_with fail
        refine bodyPost_ret (v := .tuple #[.int .i64 a, .int .i64 d, .bool true]) (by simp [results, Try.results15, go_sem]) rfl ?_
        exact RetQ.yes (quoR_some HO.out (by have := HQ.out; rwa [List.drop_zero] at this)) hbr
      | succ k =>
        have e : ((k + 1 : Nat) : Int) - 1 = (k : Int) := by omega
        rw [e]
        obtain ⟨s, hs⟩ : ∃ s, L[k]? = some s := ⟨_, List.getElem?_eq_getElem (by have := HL.out; omega)⟩
        have cs := HCS.out wr hbr k s hs
        obtain ⟨s1, s2⟩ := HAL.out s (List.mem_of_getElem? hs)
        have HST := Lib.hid (show quoF (L.drop k) = qStep (some (a, d)) s by rw [quoF_at hs, HQ.out])
        have j1 : (k : Int) < (m : Int) + 1 := by omega
        have j0 : (0 : Int) ≤ (k : Int) := by omega
        have p0 : 0 < s * a := Int.mul_pos (by omega) (by omega)
        have p1 : s * a ≤ 1000 * 1000 := Int.mul_le_mul s2 h2 (by omega) (by omega)
        clear hs
        by_cases hgt : 1000 < s * a + d
        · go_wp2_with fail
          refine bodyPost_ret (v := .tuple #[.int .i64 0, .int .i64 0, .bool false]) (by simp [results, Try.results15, go_sem]) rfl ?_
          exact RetQ.no (quoR_none (quoF_drop (m := k) (by rw [HST.out]; unfold qStep; simp only; rw [if_neg (by omega)]))) hbr
        · go_wp2_with fail
          go_roundw
          case rel => exact ⟨k, s * a + d, a, by omega, rfl, rfl, (by first | rfl | go_num | (congr 1; omega)), by rw [HST.out]; unfold qStep; simp only; rw [if_pos (by omega)], by omega, by omega, by omega, by omega, hbr⟩
          case measure => simp [intOf]
  · have d1 : (1 : Int) < (m : Int) + 1 := by omega
    have d2 : ¬ z < 2 := by omega
    clear hall hAll hcs hzg hz c0 hk1 hbad hL hl hin hib hok hq0
    go_enter Try.func15, Try.ntmps15
    go_wp2_with (first
      | (go_at_call 41; refine (l1In_any _ _ _ _).mono ?_; rw [HB.out]; rintro e w' ⟨rfl, rfl⟩)
      | (go_at_call 42; refine HA.out.mono ?_; rintro e w2 ⟨rfl, hb2⟩; have cz := HCS.out w2 hb2 m z HZ.out))
    go_loopw [6, 7, 8] (fun x y i wr => ∃ (k : Nat) (a d : Int), k ≤ m ∧ x = .int .i64 a ∧ y = .int .i64 d ∧ i = .int .i64 ((k : Int) - 1) ∧ quoF (L.drop k) = some (a, d) ∧ 1 ≤ a ∧ a ≤ 1000 ∧ 0 ≤ d ∧ d ≤ 1000 ∧ Below w.heap.size w wr) (fun _ _ i _ => (intOf i + 1).toNat)
    case atStart => exact ⟨m, z, 1, Nat.le_refl _, rfl, rfl, (by first | rfl | go_num | (congr 1; omega)), HQ0.out, hz1.1, hz1.2, by decide, by decide, hb2⟩
    case round =>
      obtain ⟨k, a, d, hk, rfl, rfl, rfl, hq, h1, h2, h3, h4, hbr⟩ := hrel
      have HQ := Lib.hid hq
      clear hq cz hb2
      cases k with
      | zero =>
        have e : ((0 : Nat) : Int) - 1 = -1 := by omega
        rw [e]
        go_wp2_with fail
        refine bodyPost_ret (v := .tuple #[.int .i64 a, .int .i64 d, .bool true]) (by simp [results, Try.results15, go_sem]) rfl ?_
        exact RetQ.yes (quoR_some HO.out (by have := HQ.out; rwa [List.drop_zero] at this)) hbr
      | succ k =>
        have e : ((k + 1 : Nat) : Int) - 1 = (k : Int) := by omega
        rw [e]
        obtain ⟨s, hs⟩ : ∃ s, L[k]? = some s := ⟨_, List.getElem?_eq_getElem (by have := HL.out; omega)⟩
        have cs := HCS.out wr hbr k s hs
        obtain ⟨s1, s2⟩ := HAL.out s (List.mem_of_getElem? hs)
        have HST := Lib.hid (show quoF (L.drop k) = qStep (some (a, d)) s by rw [quoF_at hs, HQ.out])
        have j1 : (k : Int) < (m : Int) + 1 := by omega
        have j0 : (0 : Int) ≤ (k : Int) := by omega
        have p0 : 0 < s * a := Int.mul_pos (by omega) (by omega)
        have p1 : s * a ≤ 1000 * 1000 := Int.mul_le_mul s2 h2 (by omega) (by omega)
        clear hs
        by_cases hgt : 1000 < s * a + d
        · go_wp2_with fail
          refine bodyPost_ret (v := .tuple #[.int .i64 0, .int .i64 0, .bool false]) (by simp [results, Try.results15, go_sem]) rfl ?_
          exact RetQ.no (quoR_none (quoF_drop (m := k) (by rw [HST.out]; unfold qStep; simp only; rw [if_neg (by omega)]))) hbr
        · go_wp2_with fail
          go_roundw
          case rel => exact ⟨k, s * a + d, a, by omega, rfl, rfl, (by first | rfl | go_num | (congr 1; omega)), by rw [HST.out]; unfold qStep; simp only; rw [if_pos (by omega)], by omega, by omega, by omega, by omega, hbr⟩
          case measure => simp [intOf]
end Go.Proofs.Ytakghnaklimliaa
