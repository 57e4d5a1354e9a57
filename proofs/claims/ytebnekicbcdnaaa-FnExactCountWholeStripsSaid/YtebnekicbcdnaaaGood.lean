/- Contract of the model's test of a cut. -/
import Derived.Test.YtebnekicbcdnaaaIsCut
set_option linter.all false
namespace Go.Proofs.Ytebnekicbcdnaaa
open Go.RowKit

def OkS (W H : Int) (L : List Sq) (j : Nat) (q : Sq) : Prop := Within q W H ∧ q.d ≤ 500 ∧ (∀ i p, i < j → L[i]? = some p → ¬ Over q p) ∧ (∀ p, 0 < j → L[j - 1]? = some p → Less p.x p.y q.x q.y)
def Good (W H : Int) (L : List Sq) : Prop := (1 ≤ W ∧ W ≤ 500) ∧ (1 ≤ H ∧ H ≤ 500) ∧ (1 ≤ L.length ∧ L.length ≤ 30) ∧ (∀ j q, L[j]? = some q → OkS W H L j q) ∧ area L = W * H

theorem goodI_good {W H : Int} {L : List Sq} : GoodI W H L ↔ Good W H L := by
  constructor
  · rintro ⟨hW, hH, hn, hok, ha, hs⟩
    have hlen : 1 ≤ L.length := by
      cases L with
      | nil =>
        have := (mul_bound hW.1 hW.2 hH.1 hH.2).1
        simp [area] at ha
        omega
      | cons s r => simp
    refine ⟨hW, hH, ⟨hlen, hn⟩, fun j q hq => ⟨(hok j q hq).1, ?_, (hok j q hq).2, ?_⟩, ha⟩
    · have := (hok j q hq).1; unfold Within at this; omega
    · intro p hj hp
      have e : j - 1 + 1 = j := by omega
      have h1 := hs (j - 1) p q hp (by rw [e]; exact hq)
      have h2 := (hok j q hq).2 (j - 1) p (by omega) hp
      have w1 := (hok j q hq).1
      have w2 := (hok (j - 1) p hp).1
      unfold Less at *
      unfold Over at h2
      unfold Within at w1 w2
      omega
  · rintro ⟨hW, hH, hn, hok, ha⟩
    refine ⟨hW, hH, hn.2, fun j q hq => ⟨(hok j q hq).1, (hok j q hq).2.2.1⟩, ha, ?_⟩
    intro i s t hs ht hl
    have := (hok (i + 1) t ht).2.2.2 s (by omega) (by simpa using hs)
    unfold Less at *
    omega

theorem cuGood_size (W H : Int) (A : Option Addr) (n c : Nat) (w : World) (h : ¬ ((1 ≤ W ∧ W ≤ 500) ∧ (1 ≤ H ∧ H ≤ 500) ∧ 1 ≤ n ∧ n ≤ 30)) :
    Calls Try.prog 96 #[.agg #[.int .i64 W, .int .i64 H, .slice A n c]] w fun e w' => e = .returned (.bool false) ∧ Below w.heap.size w w' := by
  have hbl : ∀ o : Obj, Below w.heap.size w (w.alloc o) := fun o => (Below.refl _ _).alloc (Nat.le_refl _) o
  by_cases h1 : 1 ≤ W ∧ W ≤ 500
  · have d1 := Lib.hid (inB_iff.2 h1)
    by_cases h2 : 1 ≤ H ∧ H ≤ 500
    · have d2 := Lib.hid (inB_iff.2 h2)
      have d3 : Hid (inB n 1 30 = false) := by
        show inB n 1 30 = false
        have h3 : ¬ (1 ≤ n ∧ n ≤ 30) := fun h' => h ⟨h1, h2, h'⟩
        simp [inB]; omega
      clear h h1 h2
      go_enter Try.func96, Try.ntmps96
      go_wp2_with fail
      refine (l1In_any _ _ _ _).mono ?_
      rw [d1.out]
      rintro e w' ⟨rfl, rfl⟩
      go_wp2_with fail
      refine (l1In_any _ _ _ _).mono ?_
      rw [d2.out]
      rintro e w' ⟨rfl, rfl⟩
      go_wp2_with fail
      refine (l1In_any _ _ _ _).mono ?_
      rw [d3.out]
      rintro e w' ⟨rfl, rfl⟩
      go_wp2_with fail
      go_ret
      exact ⟨rfl, hbl _⟩
    · have d2 : Hid (inB H 1 500 = false) := by show inB H 1 500 = false; simp [inB]; omega
      clear h h1 h2
      go_enter Try.func96, Try.ntmps96
      go_wp2_with fail
      refine (l1In_any _ _ _ _).mono ?_
      rw [d1.out]
      rintro e w' ⟨rfl, rfl⟩
      go_wp2_with fail
      refine (l1In_any _ _ _ _).mono ?_
      rw [d2.out]
      rintro e w' ⟨rfl, rfl⟩
      go_wp2_with fail
      go_ret
      exact ⟨rfl, hbl _⟩
  · have d1 : Hid (inB W 1 500 = false) := by show inB W 1 500 = false; simp [inB]; omega
    clear h h1
    go_enter Try.func96, Try.ntmps96
    go_wp2_with fail
    refine (l1In_any _ _ _ _).mono ?_
    rw [d1.out]
    rintro e w' ⟨rfl, rfl⟩
    go_wp2_with fail
    go_ret
    exact ⟨rfl, hbl _⟩

set_option maxRecDepth 100000 in
set_option maxHeartbeats 2000000 in
theorem cuGood_loop (W H : Int) (A : Option Addr) (n c : Nat) (L : List Sq) (w : World) (hl : L.length = n) (hn0 : 1 ≤ n) (hn : n ≤ 30) (hc : n ≤ c) (hL : SqsAt w w.heap.size A L)
    (w0 : 1 ≤ W) (w1 : W ≤ 500) (h0 : 1 ≤ H) (h1 : H ≤ 500) :
    Calls Try.prog 96 #[.agg #[.int .i64 W, .int .i64 H, .slice A n c]] w (RetB w (Good W H L)) := by
  obtain ⟨a0, a1⟩ := mul_bound w0 w1 h0 h1
  have d1 := Lib.hid (inB_iff.2 ⟨w0, w1⟩)
  have d2 := Lib.hid (inB_iff.2 ⟨h0, h1⟩)
  have d3 : Hid (inB n 1 30 = true) := inB_iff.2 (by omega)
  go_enter Try.func96, Try.ntmps96
  go_wp2_with fail
  refine (l1In_any _ _ _ _).mono ?_
  rw [d1.out]
  rintro e w' ⟨rfl, rfl⟩
  go_wp2_with fail
  refine (l1In_any _ _ _ _).mono ?_
  rw [d2.out]
  rintro e w' ⟨rfl, rfl⟩
  go_wp2_with fail
  refine (l1In_any _ _ _ _).mono ?_
  rw [d3.out]
  rintro e w' ⟨rfl, rfl⟩
  go_wp2_with fail
  clear d1 d2 d3
  go_loopw [3, 28] (fun fr i wr => ∃ (k : Nat) (f : Int), k ≤ n ∧ i = .int .i64 k ∧ fr = .int .i64 f ∧ 0 ≤ f ∧ f ≤ 250000 * (k : Int) ∧ Below w.heap.size w wr ∧ w.heap.size < wr.heap.size ∧
      wr.cell? ⟨w.heap.size, 0, none⟩ = some (.int .i64 W) ∧ wr.cell? ⟨w.heap.size, 1, none⟩ = some (.int .i64 H) ∧ wr.cell? ⟨w.heap.size, 2, none⟩ = some (.slice A n c) ∧
      f = area (L.take k) ∧ (∀ (j : Nat) q, j < k → L[j]? = some q → OkS W H L j q)) (fun _ i _ => n - (intOf i).toNat)
  case atStart =>
    refine ⟨0, 0, Nat.zero_le _, rfl, rfl, by omega, by omega, ?_, by simp, by simp, by simp, by simp, by simp [area], fun j q h => by omega⟩
    exact (Below.refl _ _).alloc (Nat.le_refl _) _
  case round =>
    obtain ⟨k, f, hk, rfl, rfl, f0, f1, hbr, hgw, e0, e1, e2, hf, hdone⟩ := hrel
    by_cases hlt : k < n
    · obtain ⟨q, hq⟩ : ∃ s, L[k]? = some s := ⟨_, List.getElem?_eq_getElem (by omega)⟩
      have hLw := hL.below hbr
      clear hL
      obtain ⟨b, off, rfl, hb, c0, c1, c2⟩ := hLw k q hq
      have HF := Lib.hid hf
      have HQ := Lib.hid hq
      have HD := Lib.hid hdone
      have HLen := Lib.hid hl
      clear hq hl hdone hf
      have k0 : (0 : Int) ≤ (k : Int) := by omega
      have k1 : (k : Int) < (n : Int) := by omega
      have fin : ¬ OkS W H L k q → ∀ w', Below w.heap.size w w' → RetB w (Good W H L) (.returned (.bool false)) w' := fun hno w' hb' => ⟨ret_dc (by simp only [Bool.false_eq_true, false_iff]; exact fun hG => hno (hG.2.2.2.1 k q HQ.out)), hb'⟩
      have Fin := Lib.hid fin
      clear fin
      have hal : ∀ o : Obj, Below w.heap.size w (wr.alloc o) := fun o => hbr.alloc (by omega) o
      have Hal := Lib.hid hal
      clear hal
      by_cases g1 : 1 ≤ q.d ∧ q.d ≤ 500
      · have d1 := Lib.hid (inB_iff.2 g1)
        by_cases g2 : 0 ≤ q.x ∧ q.x ≤ W - q.d
        · have d2 := Lib.hid (inB_iff.2 g2)
          by_cases g3 : 0 ≤ q.y ∧ q.y ≤ H - q.d
          · have d3 := Lib.hid (inB_iff.2 g3)
            have hok : Within q W H := by unfold Within; omega
            obtain ⟨q0, q1⟩ := sq_bound g1.1 g1.2
            go_wp2_with fail
            refine (l1In_any _ _ _ _).mono ?_
            rw [d1.out]
            rintro e w' ⟨rfl, rfl⟩
            go_wp2_with fail
            refine (l1In_any _ _ _ _).mono ?_
            rw [d2.out]
            rintro e w' ⟨rfl, rfl⟩
            go_wp2_with fail
            refine (l1In_any _ _ _ _).mono ?_
            rw [d3.out]
            rintro e w' ⟨rfl, rfl⟩
            go_wp2_with fail
            obtain ⟨wo, rfl⟩ : ∃ wo : World, wo = wr := ⟨_, rfl⟩
            obtain ⟨W1, hW1⟩ : ∃ W1, W1 = wo.alloc (.cells #[.int .i64 q.x, .int .i64 q.y, .int .i64 q.d] 96) := ⟨_, rfl⟩
            have hsz : wo.heap.size + 1 ≤ W1.heap.size := by rw [hW1]; simp
            have hB1 : Below w.heap.size w W1 := by rw [hW1]; exact Hal.out _
            have hB2 : Below wo.heap.size wo W1 := by rw [hW1]; exact (Below.refl _ _).alloc (Nat.le_refl _) _
            have S0 : W1.cell? ⟨wo.heap.size, 0, none⟩ = some (.int .i64 q.x) := by rw [hW1]; simp
            have S1 : W1.cell? ⟨wo.heap.size, 1, none⟩ = some (.int .i64 q.y) := by rw [hW1]; simp
            have S2 : W1.cell? ⟨wo.heap.size, 2, none⟩ = some (.int .i64 q.d) := by rw [hW1]; simp
            have E0 := (hB2.cell (p := ⟨w.heap.size, 0, none⟩) hgw).trans e0
            have E1 := (hB2.cell (p := ⟨w.heap.size, 1, none⟩) hgw).trans e1
            have E2 := (hB2.cell (p := ⟨w.heap.size, 2, none⟩) hgw).trans e2
            have hL1 := hLw.below (hB2.mono (Nat.le_of_lt hgw))
            rw [← hW1]
            clear hW1 e0 e1 e2 c0 c1 c2 hLw hB2 Hal
            go_loopw [71] (fun i wi => ∃ m : Nat, m ≤ k ∧ i = .int .i64 m ∧ Below (wo.heap.size + 1) W1 wi ∧ (∀ (j : Nat) p, j < m → L[j]? = some p → ¬ Over q p ∧ (j + 1 = k → Less p.x p.y q.x q.y))) (fun i _ => k - (intOf i).toNat)
            case atStart => exact ⟨0, Nat.zero_le _, rfl, Below.refl _ _, fun j p h => by omega⟩
            case round =>
              obtain ⟨m, hm, rfl, hbi, hin⟩ := hrel
              have hZ : wo.heap.size < wr.heap.size := by have := hbi.size; omega
              have hZ' : w.heap.size < wr.heap.size := by omega
              have F0 := (hbi.cell (p := ⟨wo.heap.size, 0, none⟩) (Nat.lt_succ_self _)).trans S0
              have F1 := (hbi.cell (p := ⟨wo.heap.size, 1, none⟩) (Nat.lt_succ_self _)).trans S1
              have F2 := (hbi.cell (p := ⟨wo.heap.size, 2, none⟩) (Nat.lt_succ_self _)).trans S2
              have G0 := (hbi.cell (p := ⟨w.heap.size, 0, none⟩) (by show w.heap.size < _; omega)).trans E0
              have G1 := (hbi.cell (p := ⟨w.heap.size, 1, none⟩) (by show w.heap.size < _; omega)).trans E1
              have G2 := (hbi.cell (p := ⟨w.heap.size, 2, none⟩) (by show w.heap.size < _; omega)).trans E2
              have hB3 := hB1.trans (hbi.mono (show w.heap.size ≤ wo.heap.size + 1 by omega))
              have HI := Lib.hid hin
              clear hin
              by_cases hmk : m < k
              · obtain ⟨p, hp⟩ : ∃ s, L[m]? = some s := ⟨_, List.getElem?_eq_getElem (by have := HLen.out; omega)⟩
                obtain ⟨p0, p1, p2, p3, _⟩ := (HD.out m p hmk hp).1
                obtain ⟨b', off', he, hb', c0, c1, c2⟩ := (hL1.below (hbi.mono (show w.heap.size ≤ wo.heap.size + 1 by omega))) m p hp
                simp only [Option.some.injEq, Addr.mk.injEq] at he
                obtain ⟨rfl, rfl, _⟩ := he
                have HP := Lib.hid hp
                clear hp hL1 S0 S1 S2 E0 E1 E2
                unfold Within at hok
                by_cases hov : Over q p
                · obtain ⟨o1, o2, o3, o4⟩ := hov
                  go_wp2_with fail
                  go_ret
                  exact Fin.out (fun h => h.2.2.1 m p hmk HP.out ⟨o1, o2, o3, o4⟩) _ (hB3.alloc (by omega) _)
                · have hcs : ¬ q.x < p.x + p.d ∨ (q.x < p.x + p.d ∧ ¬ p.x < q.x + q.d) ∨ (q.x < p.x + p.d ∧ p.x < q.x + q.d ∧ ¬ q.y < p.y + p.d) ∨ (q.x < p.x + p.d ∧ p.x < q.x + q.d ∧ q.y < p.y + p.d ∧ ¬ p.y < q.y + q.d) := by
                    unfold Over at hov; omega
                  have go : ∀ wz, Below (wr.heap.size + 1) (wr.alloc (.cells #[.int .i64 p.x, .int .i64 p.y, .int .i64 p.d] 96)) wz → Below (wo.heap.size + 1) W1 wz := fun wz hz =>
                    (hbi.alloc (by omega) _).trans (hz.mono (by omega))
                  have Go := Lib.hid go
                  have step : (m + 1 = k → Less p.x p.y q.x q.y) → ∀ (j : Nat) p', j < m + 1 → L[j]? = some p' → ¬ Over q p' ∧ (j + 1 = k → Less p'.x p'.y q.x q.y) := by
                    intro hls j p' hj hp'
                    by_cases e : j = m
                    · subst e
                      obtain rfl := Option.some.inj (HP.out.symm.trans hp')
                      exact ⟨hov, hls⟩
                    · exact HI.out j p' (by omega) hp'
                  have Step := Lib.hid step
                  clear go step hov
                  by_cases hmk1 : m + 1 = k
                  · have hq1 : ((m : Int) == (k : Int) - 1) = true := by simp; omega
                    have HM := Lib.hid hmk1
                    clear hmk1
                    by_cases hls : Less p.x p.y q.x q.y
                    · rcases hcs with c | ⟨c, c1⟩ | ⟨c, c1, c2⟩ | ⟨c, c1, c2, c3⟩
                      all_goals
                        go_wp2_with fail
                        refine (callB_yes (cuLess_any p.x p.y p.d q.x q.y q.d _) hls).mono ?_
                        rintro e w3 ⟨rfl, hb3⟩
                        simp only [World.size_alloc] at hb3
                        go_wp2_with fail
                        go_roundw
                        case rel => exact ⟨m + 1, by omega, by go_num, Go.out _ hb3, Step.out fun _ => hls⟩
                        case measure => simp [intOf]; omega
                    · rcases hcs with c | ⟨c, c1⟩ | ⟨c, c1, c2⟩ | ⟨c, c1, c2, c3⟩
                      all_goals
                        go_wp2_with fail
                        refine (callB_no (cuLess_any p.x p.y p.d q.x q.y q.d _) hls).mono ?_
                        rintro e w3 ⟨rfl, hb3⟩
                        simp only [World.size_alloc] at hb3
                        go_wp2_with fail
                        go_ret
                        exact Fin.out (fun h => hls (h.2.2.2 p (by have := HM.out; omega) (by rw [show k - 1 = m from by have := HM.out; omega]; exact HP.out))) _ (hB1.trans ((Go.out _ hb3).mono (by omega)))
                  · have hq1 : ((m : Int) == (k : Int) - 1) = false := by simp; omega
                    have HM := Lib.hid hmk1
                    clear hmk1
                    rcases hcs with c | ⟨c, c1⟩ | ⟨c, c1, c2⟩ | ⟨c, c1, c2, c3⟩
                    all_goals
                      go_wp2_with fail
                      go_roundw
                      case rel => exact ⟨m + 1, by omega, by go_num, Go.out _ (Below.refl _ _), Step.out fun h => absurd h HM.out⟩
                      case measure => simp [intOf]; omega
              · obtain rfl : k = m := by omega
                have d9 : q.d ≤ 500 := g1.2
                go_wp2_with fail
                go_roundw
                case rel =>
                  refine ⟨k + 1, f + q.d * q.d, by omega, by go_num, rfl, by omega, by omega, hB3, by omega, G0, G1, G2, ?_, ?_⟩
                  · rw [area_take_succ L k q HQ.out, HF.out]
                  · intro j p hj hp
                    by_cases e : j = k
                    · subst e
                      obtain rfl := Option.some.inj (HQ.out.symm.trans hp)
                      refine ⟨hok, d9, fun i p' hi hp' => (HI.out i p' hi hp').1, fun p' h0' hp' => (HI.out (j - 1) p' (by omega) hp').2 (by omega)⟩
                    · exact HD.out j p (by omega) hp
                case measure => simp [intOf]; omega
          · have d3 : Hid (inB q.y 0 (H - q.d) = false) := by show inB _ _ _ = false; simp [inB]; omega
            go_wp2_with fail
            refine (l1In_any _ _ _ _).mono ?_
            rw [d1.out]
            rintro e w' ⟨rfl, rfl⟩
            go_wp2_with fail
            refine (l1In_any _ _ _ _).mono ?_
            rw [d2.out]
            rintro e w' ⟨rfl, rfl⟩
            go_wp2_with fail
            refine (l1In_any _ _ _ _).mono ?_
            rw [d3.out]
            rintro e w' ⟨rfl, rfl⟩
            go_wp2_with fail
            go_ret
            exact Fin.out (fun h => by have := h.1; unfold Within at this; omega) _ (Hal.out _)
        · have d2 : Hid (inB q.x 0 (W - q.d) = false) := by show inB _ _ _ = false; simp [inB]; omega
          go_wp2_with fail
          refine (l1In_any _ _ _ _).mono ?_
          rw [d1.out]
          rintro e w' ⟨rfl, rfl⟩
          go_wp2_with fail
          refine (l1In_any _ _ _ _).mono ?_
          rw [d2.out]
          rintro e w' ⟨rfl, rfl⟩
          go_wp2_with fail
          go_ret
          exact Fin.out (fun h => by have := h.1; unfold Within at this; omega) _ (Hal.out _)
      · have d1 : Hid (inB q.d 1 500 = false) := by show inB _ _ _ = false; simp [inB]; omega
        go_wp2_with fail
        refine (l1In_any _ _ _ _).mono ?_
        rw [d1.out]
        rintro e w' ⟨rfl, rfl⟩
        go_wp2_with fail
        go_ret
        exact Fin.out (fun h => by have h1 := h.1; have h2 := h.2.1; unfold Within at h1; omega) _ (Hal.out _)
    · obtain rfl : k = n := by omega
      subst hl
      rw [List.take_of_length_le (Nat.le_refl _)] at hf
      have HF := Lib.hid hf
      have HD := Lib.hid hdone
      clear hf hdone
      by_cases hz : f = W * H
      · have hz' : (f == W * H) = true := by simpa using hz
        have HZ := Lib.hid hz
        clear hz
        go_wp2_with fail
        go_ret
        refine ⟨ret_dc ?_, hbr⟩
        simp only [true_iff]
        exact ⟨⟨w0, w1⟩, ⟨h0, h1⟩, ⟨hn0, hn⟩, fun j q hj => HD.out j q (List.getElem?_eq_some_iff.1 hj).1 hj, HF.out.symm.trans HZ.out⟩
      · have hz' : (f == W * H) = false := by simpa using hz
        go_wp2_with fail
        go_ret
        refine ⟨ret_dc ?_, hbr⟩
        simp only [Bool.false_eq_true, false_iff]
        exact fun hG => hz (HF.out.trans hG.2.2.2.2)

/-- A boxed cut, as it lies in a later world: its box at block B, its squares below it. -/
structure Box (B : Nat) (w w' : World) (W H : Int) (A : Option Addr) (c : Nat) (L : List Sq) : Prop where
  below : Below B w w'
  lt : B < w'.heap.size
  c0 : w'.cell? ⟨B, 0, none⟩ = some (.int .i64 W)
  c1 : w'.cell? ⟨B, 1, none⟩ = some (.int .i64 H)
  c2 : w'.cell? ⟨B, 2, none⟩ = some (.slice A L.length c)
  sqs : SqsAt w' B A L
theorem Box.next {B : Nat} {w w1 w2 : World} {W H : Int} {A : Option Addr} {c : Nat} {L : List Sq} (h : Box B w w1 W H A c L) (hb : Below w1.heap.size w1 w2) : Box B w w2 W H A c L :=
  ⟨h.below.trans (hb.mono (Nat.le_of_lt h.lt)), Nat.lt_of_lt_of_le h.lt hb.size, (hb.cell (p := ⟨B, 0, none⟩) h.lt).trans h.c0, (hb.cell (p := ⟨B, 1, none⟩) h.lt).trans h.c1, (hb.cell (p := ⟨B, 2, none⟩) h.lt).trans h.c2, h.sqs.below (hb.mono (Nat.le_of_lt h.lt))⟩
theorem Box.keep {B B' : Nat} {w w1 w2 : World} {W H : Int} {A : Option Addr} {c : Nat} {L : List Sq} (h : Box B w w1 W H A c L) (hb : Below B' w1 w2) (hB : B < B') (hz : w1.heap.size ≤ w2.heap.size) : Box B w w2 W H A c L :=
  ⟨h.below.trans (hb.mono (Nat.le_of_lt hB)), Nat.lt_of_lt_of_le h.lt hz, (hb.cell (p := ⟨B, 0, none⟩) hB).trans h.c0, (hb.cell (p := ⟨B, 1, none⟩) hB).trans h.c1, (hb.cell (p := ⟨B, 2, none⟩) hB).trans h.c2, h.sqs.below (hb.mono (Nat.le_of_lt hB))⟩

theorem Box.start {w : World} {W H : Int} {A : Option Addr} {c : Nat} {L : List Sq} {t : TypeId} (hL : SqsAt w w.heap.size A L) : Box w.heap.size w (w.alloc (.cells #[.int .i64 W, .int .i64 H, .slice A L.length c] t)) W H A c L :=
  have hb := (Below.refl w.heap.size w).alloc (Nat.le_refl _) (.cells #[.int .i64 W, .int .i64 H, .slice A L.length c] t)
  ⟨hb, by simp, by simp, by simp, by simp, hL.below hb⟩

theorem cuGood_any (W H : Int) (A : Option Addr) (n c : Nat) (L : List Sq) (w : World) (hl : L.length = n) (hc : n ≤ c) (hL : SqsAt w w.heap.size A L) :
    Calls Try.prog 96 #[.agg #[.int .i64 W, .int .i64 H, .slice A n c]] w (RetB w (Good W H L)) := by
  by_cases h : (1 ≤ W ∧ W ≤ 500) ∧ (1 ≤ H ∧ H ≤ 500) ∧ 1 ≤ n ∧ n ≤ 30
  · exact cuGood_loop W H A n c L w hl h.2.2.1 h.2.2.2 hc hL h.1.1 h.1.2 h.2.1.1 h.2.1.2
  · refine (cuGood_size W H A n c w h).mono ?_
    rintro e w' ⟨rfl, hb⟩
    refine ⟨ret_dc ?_, hb⟩
    simp only [Bool.false_eq_true, false_iff]
    exact fun hG => h ⟨hG.1, hG.2.1, by rw [← hl]; exact hG.2.2.1⟩
theorem isCut_good (W H : Int) (A : Option Addr) (n c : Nat) (L : List Sq) (w : World) (hl : L.length = n) (hc : n ≤ c) (hL : SqsAt w w.heap.size A L) (hwf : ∀ s ∈ L, wfS s) :
    Calls Try.prog 98 #[.agg #[.int .i64 W, .int .i64 H, .slice A n c]] w (RetB w (Good W H L)) :=
  (isCut_any W H A n c L w hl hc hL hwf).mono fun _ _ h => h.iff goodI_good
end Go.Proofs.Ytebnekicbcdnaaa
