/- The longest line across: of the program, and of the model. -/
import Derived.Test.YtgghkimjminbaaaLongI
set_option linter.all false
namespace Go.Proofs.Ytgghkimjminbaaa
open Go.RowKit

set_option maxRecDepth 100000 in
set_option maxHeartbeats 8000000 in
theorem across_any (a b : Nat) (A : Option Addr) (n c : Nat) (L : List Sq) (w : World) (hl : L.length = n) (hc : n ≤ c) (hG : Good a b L) (hC : M.Cut L a b) (hL : SqsAt w w.heap.size A L) :
    Calls Try.prog 67 #[.agg #[.int .i64 a, .int .i64 b, .slice A n c]] w fun e w' => (∃ m, e = .returned (.int .i64 m) ∧ M.ImplM L b m ∧ m ≤ a) ∧ Below w.heap.size w w' := by
  subst hl
  have hF := good_fill hG
  have hW5 := hF.w
  have hH5 := hF.h
  have h30 : L.length ≤ 30 := hG.2.2.1.2
  obtain ⟨W1, hW1⟩ : ∃ W1, W1 = (w.alloc (.cells #[.int .i64 a, .int .i64 b, .slice A L.length c] 24)) := ⟨_, rfl⟩
  have hB1 : Below w.heap.size w W1 := by rw [hW1]; exact (Below.refl _ _).alloc (Nat.le_refl _) _
  have hz1 : W1.heap.size = w.heap.size + 1 := by rw [hW1]; simp
  have b0 : W1.cell? ⟨w.heap.size, 0, none⟩ = some (.int .i64 a) := by rw [hW1]; simp
  have b1 : W1.cell? ⟨w.heap.size, 1, none⟩ = some (.int .i64 b) := by rw [hW1]; simp
  have b2 : W1.cell? ⟨w.heap.size, 2, none⟩ = some (.slice A L.length c) := by rw [hW1]; simp
  have HG := Lib.hid hG
  have HC := Lib.hid hC
  clear hG hC
  go_enter Try.func67, Try.ntmps67
  go_wp2_with fail
  rw [← hW1]
  clear hW1
  go_wp2_with fail
  go_loopw [3, 10] (fun v i wr => ∃ (k : Nat) (m : Int), k ≤ L.length ∧ i = .int .i64 k ∧ v = .int .i64 m ∧ M.ImpM L b k m ∧ Below (w.heap.size + 1) W1 wr ∧ w.heap.size + 1 ≤ wr.heap.size) (fun _ i _ => L.length - (intOf i).toNat)
  case atStart => exact ⟨0, 0, Nat.zero_le _, rfl, rfl, M.ImpM.start L b, Below.refl _ _, Nat.le_of_eq hz1.symm⟩
  case round =>
    obtain ⟨k, m, hk, rfl, rfl, hM, hbr, hzr⟩ := hrel
    have z0 := (hbr.cell (p := ⟨w.heap.size, 0, none⟩) (by simp)).trans b0
    have z1 := (hbr.cell (p := ⟨w.heap.size, 1, none⟩) (by simp)).trans b1
    have z2 := (hbr.cell (p := ⟨w.heap.size, 2, none⟩) (by simp)).trans b2
    have hBr := hB1.trans (hbr.mono (by omega))
    have hm0 := hM.pos
    have hm1 := hM.le HC.out
    have HM := Lib.hid hM
    clear hM b0 b1 b2
    by_cases hlt : k < L.length
    · obtain ⟨s, hs⟩ : ∃ s, L[k]? = some s := ⟨_, List.getElem?_eq_getElem hlt⟩
      obtain ⟨g, off, rfl, hb, c0, c1, c2⟩ := (hL.below hBr) k s hs
      have hin := hF.within s (List.mem_of_getElem? hs)
      unfold Within at hin
      have hzr0 : w.heap.size < wr.heap.size := by omega
      have k0 : (0 : Int) ≤ (k : Int) := by omega
      have k1 : (k : Int) < (L.length : Int) := by omega
      have HS := Lib.hid hs
      have HL := Lib.hid hL
      clear hs hL
      by_cases hlv : s.y + s.d < b
      · go_wp2_with fail
        obtain ⟨W4, hW4⟩ : ∃ W4, W4 = wr.alloc (.cells #[.int .i64 s.x, .int .i64 s.y, .int .i64 s.d] 39) := ⟨_, rfl⟩
        have hb4 : Below wr.heap.size wr W4 := by rw [hW4]; exact (Below.refl _ _).alloc (Nat.le_refl _) _
        have d0 : W4.cell? ⟨wr.heap.size, 0, none⟩ = some (.int .i64 s.x) := by rw [hW4]; simp
        have hz4 : wr.heap.size < W4.heap.size := by rw [hW4]; simp
        have z0 := (hb4.cell (p := ⟨w.heap.size, 0, none⟩) hzr0).trans z0
        have z1 := (hb4.cell (p := ⟨w.heap.size, 1, none⟩) hzr0).trans z1
        have z2 := (hb4.cell (p := ⟨w.heap.size, 2, none⟩) hzr0).trans z2
        have hB4 := hBr.trans (hb4.mono (by omega))
        have hbr4 := hbr.trans (hb4.mono hzr)
        have hLT : SqsAt W4 W4.heap.size (some ⟨g, off, none⟩) L := (HL.out.below hB4).mono hB4.size
        have hzw : w.heap.size < W4.heap.size := by omega
        have HLT := Lib.hid hLT
        rw [← hW4]
        clear hW4 hLT c0 c1 c2 hbr hBr hb4
        go_region_held3 (fun w' => Below W4.heap.size W4 w' ∧ W4.heap.size ≤ w'.heap.size ∧ ∀ b o, b < W4.heap.size → w'.cell? ⟨b, o, none⟩ = W4.cell? ⟨b, o, none⟩)
          (first | assumption | exact keepS (by assumption) (by assumption) | exact ⟨(Below.refl _ _).drew, Nat.le_refl _, fun _ _ _ => rfl⟩)
          ((go_at_call 92; refine (endOf_any a b (some ⟨g, off, none⟩) L.length c L (s.y + s.d) rfl hc HG.out ((a : Int) - s.x + 1).toNat s.x _ (by omega) (by omega) (by omega) (sqsS HLT.out (by assumption))).mono ?_; rintro e w8 ⟨⟨q, rfl, hq0, hqW, hE⟩, hb8⟩))
        have hB8 := belowS (B := W4.heap.size) (wp := w8) (by assumption)
        have HE := Lib.hid hE
        have hz8 := hB8.size
        clear hE hb8
        go_wp2_with fail
        go_roundw
        case rel => exact ⟨k + 1, max m (q - s.x), by omega, by go_num, by rw [show IntKind.i64.wrap (q - s.x) = q - s.x from IntWalk.i64_in _ (by omega)], HM.out.step HC.out HS.out hlv HE.out rfl, hbr4.trans (hB8.mono (by omega)), by omega⟩
        case measure => simp [intOf]; omega
      · go_wp2_with fail
        go_roundw
        case rel => exact ⟨k + 1, m, by omega, by go_num, rfl, HM.out.skip HS.out hlv, hbr.alloc hzr _, by simp; omega⟩
        case measure => simp [intOf]; omega
    · obtain rfl : k = L.length := by omega
      go_wp2_with fail
      go_ret
      exact ⟨⟨m, rfl, HM.out.done, hm1⟩, hBr⟩

set_option maxRecDepth 100000 in
set_option maxHeartbeats 8000000 in
theorem cuLine_any (a b : Nat) (A : Option Addr) (n c : Nat) (L : List Sq) (w : World) (hl : L.length = n) (hc : n ≤ c) (hG : Good a b L) (hL : SqsAt w w.heap.size A L) :
    Calls Try.prog 70 #[.agg #[.int .i64 a, .int .i64 b, .slice A n c]] w fun e w' => (∃ m, e = .returned (.int .i64 m) ∧ M.SpecM L a b m ∧ m ≤ a) ∧ Below w.heap.size w w' := by
  subst hl
  have hF := good_fill hG
  have hW5 := hF.w
  have hH5 := hF.h
  have h30 : L.length ≤ 30 := hG.2.2.1.2
  obtain ⟨W1, hW1⟩ : ∃ W1, W1 = (w.alloc (.cells #[.int .i64 a, .int .i64 b, .slice A L.length c] 24)) := ⟨_, rfl⟩
  have hB1 : Below w.heap.size w W1 := by rw [hW1]; exact (Below.refl _ _).alloc (Nat.le_refl _) _
  have hz1 : W1.heap.size = w.heap.size + 1 := by rw [hW1]; simp
  have b0 : W1.cell? ⟨w.heap.size, 0, none⟩ = some (.int .i64 a) := by rw [hW1]; simp
  have b1 : W1.cell? ⟨w.heap.size, 1, none⟩ = some (.int .i64 b) := by rw [hW1]; simp
  have b2 : W1.cell? ⟨w.heap.size, 2, none⟩ = some (.slice A L.length c) := by rw [hW1]; simp
  have HG := Lib.hid hG
  clear hG
  go_enter Try.func70, Try.ntmps70
  go_wp2_with fail
  rw [← hW1]
  clear hW1
  go_wp2_with fail
  go_loopw [3, 4] (fun v i wr => ∃ (y m : Int), 1 ≤ y ∧ y ≤ b ∧ i = .int .i64 y ∧ v = .int .i64 m ∧ M.MidM L a b y 0 m ∧ Below (w.heap.size + 1) W1 wr ∧ w.heap.size + 1 ≤ wr.heap.size) (fun _ i _ => ((b : Int) - intOf i).toNat)
  case atStart => exact ⟨1, 0, Int.le_refl _, by omega, rfl, rfl, M.MidM.start L a b, Below.refl _ _, Nat.le_of_eq hz1.symm⟩
  case round =>
    obtain ⟨y, m, hy1, hyb, rfl, rfl, hM, hbr, hzr⟩ := hrel
    have z0 := (hbr.cell (p := ⟨w.heap.size, 0, none⟩) (by simp)).trans b0
    have z1 := (hbr.cell (p := ⟨w.heap.size, 1, none⟩) (by simp)).trans b1
    have z2 := (hbr.cell (p := ⟨w.heap.size, 2, none⟩) (by simp)).trans b2
    have hm0 := hM.pos
    have hm1 := hM.le
    have HM := Lib.hid hM
    clear hM
    have hzr0 : w.heap.size < wr.heap.size := by omega
    by_cases hlv : y < b
    · go_wp2_with fail
      go_loopw [3, 5, 6] (fun v r i wr => ∃ (x : Nat) (m : Int), x ≤ a ∧ i = .int .i64 x ∧ r = .int .i64 (M.run L y x) ∧ v = .int .i64 m ∧ M.MidM L a b y x m ∧ Below (w.heap.size + 1) W1 wr ∧ w.heap.size + 1 ≤ wr.heap.size) (fun _ _ i _ => ((a : Int) - intOf i).toNat)
      case atStart => exact ⟨0, m, Nat.zero_le _, rfl, rfl, rfl, HM.out, hbr, hzr⟩
      case round =>
        clear z0 z1 z2 hzr0 hm0 hm1 hbr hzr HM
        obtain ⟨x, m, hxa, rfl, rfl, rfl, hM, hbr, hzr⟩ := hrel
        have z0 := (hbr.cell (p := ⟨w.heap.size, 0, none⟩) (by simp)).trans b0
        have z1 := (hbr.cell (p := ⟨w.heap.size, 1, none⟩) (by simp)).trans b1
        have z2 := (hbr.cell (p := ⟨w.heap.size, 2, none⟩) (by simp)).trans b2
        have hBr := hB1.trans (hbr.mono (by omega))
        have hm0 := hM.pos
        have hm1 := hM.le
        have HM := Lib.hid hM
        have hzr0 : w.heap.size < wr.heap.size := by omega
        have hr0 := M.run_nonneg L y x
        have hr1 := (M.run_says L y x).1
        have hk0 := M.runK_zero L y x
        obtain ⟨R0, hR0⟩ : ∃ z, M.run L y x = z := ⟨_, rfl⟩
        rw [hR0] at hr0 hr1 hk0 ⊢
        have HK0 := Lib.hid hk0
        clear hM hR0 hk0
        by_cases hlx : x < a
        · go_wp2_with fail
          go_loopw [5, 26] (fun r i wr => ∃ k : Nat, k ≤ L.length ∧ i = .int .i64 k ∧ r = .int .i64 (M.runK L y x k) ∧ Below (w.heap.size + 1) W1 wr ∧ w.heap.size + 1 ≤ wr.heap.size) (fun _ i _ => L.length - (intOf i).toNat)
          case atStart => exact ⟨0, Nat.zero_le _, rfl, by rw [HK0.out], hbr, hzr⟩
          case round =>
            clear z0 z1 z2 hzr0 hbr hzr hBr
            obtain ⟨k, hk, rfl, rfl, hbr, hzr⟩ := hrel
            have hBr := hB1.trans (hbr.mono (by omega))
            have hrk := M.runK_le L y x k
            have hzr0 : w.heap.size < wr.heap.size := by omega
            by_cases hlt : k < L.length
            · obtain ⟨s, hs⟩ : ∃ s, L[k]? = some s := ⟨_, List.getElem?_eq_getElem hlt⟩
              obtain ⟨g, off, rfl, hb, c0, c1, c2⟩ := (hL.below hBr) k s hs
              have hin := hF.within s (List.mem_of_getElem? hs)
              unfold Within at hin
              have k0 : (0 : Int) ≤ (k : Int) := by omega
              have k1 : (k : Int) < (L.length : Int) := by omega
              by_cases ht : M.Thr s y x
              · have hst := Lib.hid (M.runK_yes hs ht)
                unfold M.Thr at ht
                obtain ⟨⟨t1, t2⟩, t3, t4⟩ := ht
                have ex := Lib.hid (inB_iff.2 (show s.x ≤ (x : Int) ∧ (x : Int) ≤ s.x + s.d - 1 by omega))
                obtain ⟨RK, hRK⟩ : ∃ z, M.runK L y x k = z := ⟨_, rfl⟩
                rw [hRK]
                clear hs hL hRK hrk b0 b1 b2
                go_wp2_with fail
                refine (l1In_any _ _ _ _).mono ?_
                rw [ex.out]
                rintro e w' ⟨rfl, rfl⟩
                go_wp2_with fail
                go_roundw
                case rel => exact ⟨k + 1, by omega, by go_num, by rw [hst.out], hbr.alloc hzr _, by simp; omega⟩
                case measure => simp [intOf]; omega
              · have hst := Lib.hid (M.runK_no hs ht)
                unfold M.Thr at ht
                have hcs : ¬ s.y < y ∨ (s.y < y ∧ ¬ y < s.y + s.d) ∨ (s.y < y ∧ y < s.y + s.d ∧ ¬ (s.x ≤ (x : Int) ∧ (x : Int) ≤ s.x + s.d - 1)) := by omega
                obtain ⟨RK, hRK⟩ : ∃ z, M.runK L y x k = z := ⟨_, rfl⟩
                rw [hRK] at hst hrk ⊢
                clear hs hL hRK ht b0 b1 b2
                rcases hcs with c | ⟨c, c3⟩ | ⟨c, c3, c4⟩
                · go_wp2_with fail
                  go_roundw
                  case rel => exact ⟨k + 1, by omega, by go_num, by rw [hst.out], hbr.alloc hzr _, by simp; omega⟩
                  case measure => simp [intOf]; omega
                · go_wp2_with fail
                  go_roundw
                  case rel => exact ⟨k + 1, by omega, by go_num, by rw [hst.out], hbr.alloc hzr _, by simp; omega⟩
                  case measure => simp [intOf]; omega
                · have ex : inB (x : Int) s.x (s.x + s.d - 1) = false := by
                    rw [← Bool.not_eq_true]; exact fun h => c4 (inB_iff.1 h)
                  have ex := Lib.hid ex
                  clear c4
                  go_wp2_with fail
                  refine (l1In_any _ _ _ _).mono ?_
                  rw [ex.out]
                  rintro e w' ⟨rfl, rfl⟩
                  go_wp2_with fail
                  go_roundw
                  case rel => exact ⟨k + 1, by omega, by go_num, by rw [hst.out], hbr.alloc hzr _, by simp; omega⟩
                  case measure => simp [intOf]; omega
            · obtain rfl : k = L.length := by omega
              have hst := HM.out.step hy1 hlv hlx (m' := mxI m (M.run L y (x + 1))) rfl
              have hre := M.runK_all L y x
              rw [hre] at hrk ⊢
              obtain ⟨R1, hR1⟩ : ∃ z, M.run L y (x + 1) = z := ⟨_, rfl⟩
              rw [hR1] at hrk hst ⊢
              have HR1 := Lib.hid hR1
              have HST := Lib.hid hst
              clear hR1 hre hst
              go_wp2_with fail
              refine (l1Most_any _ _ _).mono ?_
              rintro e w' ⟨rfl, rfl⟩
              go_wp2_with fail
              go_roundw
              case rel => exact ⟨x + 1, _, by omega, by go_num, by rw [HR1.out], rfl, HST.out, hbr, hzr⟩
              case measure => simp [intOf]; omega
        · obtain rfl : x = a := by omega
          go_wp2_with fail
          go_roundw
          case rel => exact ⟨y + 1, m, by omega, by omega, by go_num, rfl, HM.out.row, hbr, hzr⟩
          case measure => simp [intOf]; omega
    · go_wp2_with fail
      go_ret
      exact ⟨⟨m, rfl, HM.out.done (by omega), hm1⟩, hB1.trans (hbr.mono (by omega))⟩
end Go.Proofs.Ytgghkimjminbaaa
