/- The first turn: the model's search. -/
import Derived.Test.YtchabjmdjpfkfaaFirstF
set_option linter.all false
namespace Go.Proofs.Ytchabjmdjpfkfaa
open Go.RowKit

/-- A cut in memory of the call's own, of which this holds. -/
def RetF (w : World) (Q : F.Ct → Prop) (e : Ending) (w' : World) : Prop :=
  ∃ A k b, e = .returned (.agg #[.int .i64 b.w, .int .i64 b.h, .slice A b.l.length k]) ∧ Q b ∧ w'.ownsRow w.heap.size 77 3 (.slice A b.l.length k) b.l.length (flat b.l) ∧ Below w.heap.size w w'
/-- The cut at hand in the m-th round of a turn. -/
def cm (c : F.Ct) (m : Nat) : F.Ct := if m = 1 then F.mC c else c

set_option maxRecDepth 100000 in
set_option maxHeartbeats 8000000 in
theorem cuTurns_any (W H : Int) (A : Option Addr) (n c : Nat) (L : List Sq) (w : World) (hl : L.length = n) (hc : n ≤ c) (hL : SqsAt w w.heap.size A L) (hG : Good W H L) :
    Calls Try.prog 85 #[.agg #[.int .i64 W, .int .i64 H, .slice A n c]] w (RetF w (F.BestO (F.SM ⟨W, H, L⟩ 4 0) true)) := by
  subst hl
  obtain ⟨C0, hC0⟩ : ∃ C0 : F.Ct, C0 = ⟨W, H, L⟩ := ⟨_, rfl⟩
  have hGC : F.GoodC C0 := by rw [hC0]; exact hG
  obtain ⟨W1, hW1⟩ : ∃ W1, W1 = ((w.alloc (.cells #[.int .i64 W, .int .i64 H, .slice A L.length c] 50)).alloc (.cells #[.int .i64 0, .int .i64 0, .slice none 0 0] 50)).alloc (.cells #[.int .i64 0, .int .i64 0, .slice none 0 0] 50) := ⟨_, rfl⟩
  have hB1 : Below w.heap.size w W1 := by rw [hW1]; exact (((Below.refl _ _).alloc (Nat.le_refl _) _).alloc (by simp) _).alloc (by simp; omega) _
  have hz1 : W1.heap.size = w.heap.size + 3 := by rw [hW1]; simp
  have T1 : TB w (w.heap.size + 2) C0 ⟨0, 0, []⟩ W1 := by
    refine ⟨hB1, Nat.le_refl _, by omega, ⟨A, c, ?_, ?_, ?_, by rw [hC0]; exact hc, by rw [hC0]; exact SqsN.old (hL.below hB1) (by omega) (Nat.le_refl _)⟩, ⟨none, 0, ?_, ?_, ?_, World.ownsRow_nil _ _ _ _, fun g hg => by cases hg⟩, ⟨?_, ?_, ?_⟩, fun g o hg => ?_, by simp⟩
    · rw [hC0, hW1]; simp [go_sem]
    · rw [hC0, hW1]; simp [go_sem]
    · rw [hC0, hW1]; simp [go_sem]
    · rw [hW1]; simp [go_sem]
    · rw [hW1]; simp [go_sem]
    · rw [hW1]; simp [go_sem]
    · rw [hW1]; simp [go_sem]
    · rw [hW1]; simp [go_sem]
    · rw [hW1]; simp [go_sem]
    · rw [hW1]
      rcases hg with rfl | rfl | rfl
      · rw [World.frozen?_alloc_past _ _ _ (by simp; omega), World.frozen?_alloc_past _ _ _ (by simp)]
        exact World.frozen?_alloc_at _ _ _ _ rfl
      · rw [World.frozen?_alloc_past _ _ _ (by simp)]
        exact World.frozen?_alloc_at _ _ _ _ (by simp)
      · exact World.frozen?_alloc_at _ _ _ _ (by simp)
  have HGC := Lib.hid hGC
  have HG0 := Lib.hid hC0
  rw [← hC0]
  clear hGC hG hL hC0
  go_enter Try.func85, Try.ntmps85
  go_wp2_with fail
  rw [← hW1]
  clear hW1
  go_wp2_with fail
  go_loopw [4, 5] (fun f t wr => ∃ (i : Nat) (found : Bool) (b : F.Ct), i ≤ 4 ∧ t = .int .i64 i ∧ f = .bool found ∧ F.BestO (F.SM C0 i 0) found b ∧ TB w (w.heap.size + 2) (F.it i C0) b wr) (fun _ t _ => 4 - (intOf t).toNat)
  case atStart => exact ⟨0, false, _, Nat.zero_le _, rfl, rfl, .inr ⟨rfl, F.SM_none C0⟩, T1⟩
  case round =>
    clear T1 hB1 hz1
    obtain ⟨i, found, b, hi, rfl, rfl, hBO, hT⟩ := hrel
    have HBO := Lib.hid hBO
    have HT := Lib.hid hT
    clear hBO hT
    by_cases hlt : i < 4
    · have hlti : (i : Int) < 4 := by omega
      have hltd : decide ((i : Int) < 4) = true := decide_eq_true hlti
      go_wp2_with fail
      go_loopw [4, 6] (fun f t wr => ∃ (j : Nat) (found : Bool) (b : F.Ct), j ≤ 2 ∧ t = .int .i64 j ∧ f = .bool found ∧ F.BestO (F.SM C0 i j) found b ∧ TB w (w.heap.size + 2) (cm (F.it i C0) j) b wr) (fun _ t _ => 2 - (intOf t).toNat)
      case atStart => exact ⟨0, found, b, Nat.zero_le _, rfl, rfl, HBO.out, HT.out⟩
      case round =>
        clear HBO HT
        obtain ⟨j, found, b, hj, rfl, rfl, hBO, hT⟩ := hrel
        by_cases hltj : j < 2
        · obtain ⟨x, hx⟩ : ∃ x, cm (F.it i C0) j = x := ⟨_, rfl⟩
          have hGx : Good x.w x.h x.l := by
            show F.GoodC x
            rw [← hx]
            unfold cm
            split
            · exact F.good_m (F.good_it HGC.out i)
            · exact F.good_it HGC.out i
          have hwx : x.w = (F.it i C0).w ∧ x.h = (F.it i C0).h := by
            rw [← hx]
            unfold cm
            split <;> exact ⟨rfl, rfl⟩
          have hmx : F.mC x = cm (F.it i C0) (j + 1) := by
            rw [← hx]
            unfold cm
            rcases (by omega : j = 0 ∨ j = 1) with rfl | rfl
            · rfl
            · simp only [if_pos]
              rw [F.mC_mC (F.good_it HGC.out i)]
              rfl
          have hyes : x.h ≤ x.w → ∀ y, (F.SM C0 i j y ∨ y = x) ↔ F.SM C0 i (j + 1) y := by
            rw [hwx.1, hwx.2, ← hx]
            unfold cm
            intro hh y
            rcases (by omega : j = 0 ∨ j = 1) with rfl | rfl
            · exact F.SM_one hh y
            · exact F.SM_two hh y
          have hno : ¬ x.h ≤ x.w → ∀ y, F.SM C0 i j y ↔ F.SM C0 i (j + 1) y := by
            rw [hwx.1, hwx.2]
            intro hh y
            exact (F.SM_skip (m := j) hh y).symm.trans (F.SM_skip (m := j + 1) hh y)
          rw [hx] at hT
          have hG30 := hGx.2.2.1
          have HYES := Lib.hid hyes
          have HNO := Lib.hid hno
          have HMX := Lib.hid hmx
          have HBO := Lib.hid hBO
          have HGX := Lib.hid hGx
          have hwb : x.w ≤ 500 ∧ x.h ≤ 500 := ⟨hGx.1.2, hGx.2.1.2⟩
          obtain ⟨Ac, kc, c0, c1, c2, hkc, hSc⟩ := id hT.cur
          obtain ⟨Ab, kb, d0, d1, d2, hob, hnb⟩ := id hT.best
          have f00 := hT.fr w.heap.size 0 (.inl rfl)
          have f01 := hT.fr w.heap.size 1 (.inl rfl)
          have f02 := hT.fr w.heap.size 2 (.inl rfl)
          have g00 := hT.fr (w.heap.size + 2) 0 (.inr (.inr rfl))
          have g01 := hT.fr (w.heap.size + 2) 1 (.inr (.inr rfl))
          have g02 := hT.fr (w.heap.size + 2) 2 (.inr (.inr rfl))
          have hz := hT.size
          have hzN : w.heap.size < wr.heap.size := by omega
          have hSC := hSc.sqs
          have HSC := Lib.hid hSC
          have HOB := Lib.hid hob
          have HT := Lib.hid hT
          clear hx hwx hyes hno hmx hBO hGx hSc hSC hob hnb hT
          by_cases hwide : x.h ≤ x.w
          · cases found with
            | false =>
              go_wp2_with fail
              (with_reducible refine (cuOwn_any x.w x.h Ac _ kc x.l wr rfl (by omega) (by omega) (HSC.out)).mono ?_)
              rintro e w3 ⟨A3, k3, rfl, ho3, hb3⟩
              have T3 := HT.out.keep hb3
              have hP3 : w.heap.size + 2 < wr.heap.size := (HT.out).size
              have HT3 := Lib.hid T3
              have HO3 := Lib.hid ho3
              clear c0 c1 c2 d0 d1 d2 f00 f01 f02 g00 g01 g02 hz hzN hkc
              clear ho3 hb3
              obtain ⟨Ac, kc, c0, c1, c2, hkc, hSc⟩ := id (T3).cur
              obtain ⟨Ab, kb, d0, d1, d2, hob, hnb⟩ := id (T3).best
              have f00 := (T3).fr w.heap.size 0 (.inl rfl)
              have f01 := (T3).fr w.heap.size 1 (.inl rfl)
              have f02 := (T3).fr w.heap.size 2 (.inl rfl)
              have g00 := (T3).fr (w.heap.size + 2) 0 (.inr (.inr rfl))
              have g01 := (T3).fr (w.heap.size + 2) 1 (.inr (.inr rfl))
              have g02 := (T3).fr (w.heap.size + 2) 2 (.inr (.inr rfl))
              have hz := (T3).size
              have hzN : w.heap.size < w3.heap.size := by omega
              have HS3 := Lib.hid hSc
              clear T3 hSc hob hnb
              go_wp2_with fail
              have T4 := HT3.out.setBest x.w x.h x.l rfl (own_base HO3.out (by omega)) (not_sb HO3.out (Nat.le_refl _) hP3) (by omega)
              have hS4 := ((HS3.out.set ⟨w.heap.size + 2, 0, none⟩ (.int .i64 x.w) (.inr (.inr rfl))).set ⟨w.heap.size + 2, 1, none⟩ (.int .i64 x.h) (.inr (.inr rfl))).set ⟨w.heap.size + 2, 2, none⟩ (.slice A3 x.l.length k3) (.inr (.inr rfl))
              obtain ⟨W4, hW4⟩ : ∃ W4, W4 = ((w3.setCell ⟨w.heap.size + 2, 0, none⟩ (.int .i64 x.w)).setCell ⟨w.heap.size + 2, 1, none⟩ (.int .i64 x.h)).setCell ⟨w.heap.size + 2, 2, none⟩ (.slice A3 x.l.length k3) := ⟨_, rfl⟩
              rw [← hW4] at T4 hS4 ⊢
              clear hW4
              (with_reducible refine (cuMirror_any x.w x.h Ac _ kc x.l W4 rfl hkc (hS4.sqs) HGX.out).mono ?_)
              rintro e w5 ⟨A5, k5, Tl, rfl, hp, hs, ho5, hb5⟩
              obtain rfl := srt_uniq hp hs ((fill_mir (good_fill HGX.out)).dist)
              have T5 := T4.keep hb5
              have HT5 := Lib.hid T5
              have HO5 := Lib.hid ho5
              have hPz : w.heap.size + 2 < W4.heap.size := (T4).size
              clear c0 c1 c2 d0 d1 d2 f00 f01 f02 g00 g01 g02 hz hzN hkc
              clear hp hs ho5 hb5
              obtain ⟨Ac, kc, c0, c1, c2, hkc, hSc⟩ := id (T5).cur
              obtain ⟨Ab, kb, d0, d1, d2, hob, hnb⟩ := id (T5).best
              have f00 := (T5).fr w.heap.size 0 (.inl rfl)
              have f01 := (T5).fr w.heap.size 1 (.inl rfl)
              have f02 := (T5).fr w.heap.size 2 (.inl rfl)
              have g00 := (T5).fr (w.heap.size + 2) 0 (.inr (.inr rfl))
              have g01 := (T5).fr (w.heap.size + 2) 1 (.inr (.inr rfl))
              have g02 := (T5).fr (w.heap.size + 2) 2 (.inr (.inr rfl))
              have hz := (T5).size
              have hzN : w.heap.size < w5.heap.size := by omega
              clear T5 hSc hob hnb
              go_wp2_with fail
              go_roundw
              case rel =>
                exact ⟨j + 1, true, _, by omega, by go_num, rfl, (HBO.out.first).congr (HYES.out hwide), by rw [← HMX.out]; exact HT5.out.setCur x.w x.h (srt (mirL x.w x.l)) (srt_len _).symm HO5.out hPz⟩
              case measure => simp [intOf]; omega
            | true =>
              by_cases hlq : F.ltQ x.l b.l
              · have CF := callB_yes (cuFirst_any x.w x.h b.w b.h Ac Ab _ _ kc kb x.l b.l wr rfl rfl (by omega) HT.out.len HSC.out (sqs_of_own HOB.out)) hlq
                have HLQ := Lib.hid hlq
                clear hlq
                go_wp2_with fail
                (with_reducible refine CF.mono ?_)
                rintro e w2 ⟨rfl, hb2⟩
                have T2 := HT.out.keep hb2
                clear c0 c1 c2 d0 d1 d2 f00 f01 f02 g00 g01 g02 hz hzN hkc
                clear CF hb2
                obtain ⟨Ac, kc, c0, c1, c2, hkc, hSc⟩ := id (T2).cur
                obtain ⟨Ab, kb, d0, d1, d2, hob, hnb⟩ := id (T2).best
                have f00 := (T2).fr w.heap.size 0 (.inl rfl)
                have f01 := (T2).fr w.heap.size 1 (.inl rfl)
                have f02 := (T2).fr w.heap.size 2 (.inl rfl)
                have g00 := (T2).fr (w.heap.size + 2) 0 (.inr (.inr rfl))
                have g01 := (T2).fr (w.heap.size + 2) 1 (.inr (.inr rfl))
                have g02 := (T2).fr (w.heap.size + 2) 2 (.inr (.inr rfl))
                have hz := (T2).size
                have hzN : w.heap.size < w2.heap.size := by omega
                go_wp2_with fail
                (with_reducible refine (cuOwn_any x.w x.h Ac _ kc x.l w2 rfl (by omega) (by omega) (hSc.sqs)).mono ?_)
                rintro e w3 ⟨A3, k3, rfl, ho3, hb3⟩
                have T3 := T2.keep hb3
                have hP3 : w.heap.size + 2 < w2.heap.size := (T2).size
                have HT3 := Lib.hid T3
                have HO3 := Lib.hid ho3
                clear c0 c1 c2 d0 d1 d2 f00 f01 f02 g00 g01 g02 hz hzN hkc
                clear ho3 hb3
                obtain ⟨Ac, kc, c0, c1, c2, hkc, hSc⟩ := id (T3).cur
                obtain ⟨Ab, kb, d0, d1, d2, hob, hnb⟩ := id (T3).best
                have f00 := (T3).fr w.heap.size 0 (.inl rfl)
                have f01 := (T3).fr w.heap.size 1 (.inl rfl)
                have f02 := (T3).fr w.heap.size 2 (.inl rfl)
                have g00 := (T3).fr (w.heap.size + 2) 0 (.inr (.inr rfl))
                have g01 := (T3).fr (w.heap.size + 2) 1 (.inr (.inr rfl))
                have g02 := (T3).fr (w.heap.size + 2) 2 (.inr (.inr rfl))
                have hz := (T3).size
                have hzN : w.heap.size < w3.heap.size := by omega
                have HS3 := Lib.hid hSc
                clear T3 hSc hob hnb
                go_wp2_with fail
                have T4 := HT3.out.setBest x.w x.h x.l rfl (own_base HO3.out (by omega)) (not_sb HO3.out (Nat.le_refl _) hP3) (by omega)
                have hS4 := ((HS3.out.set ⟨w.heap.size + 2, 0, none⟩ (.int .i64 x.w) (.inr (.inr rfl))).set ⟨w.heap.size + 2, 1, none⟩ (.int .i64 x.h) (.inr (.inr rfl))).set ⟨w.heap.size + 2, 2, none⟩ (.slice A3 x.l.length k3) (.inr (.inr rfl))
                obtain ⟨W4, hW4⟩ : ∃ W4, W4 = ((w3.setCell ⟨w.heap.size + 2, 0, none⟩ (.int .i64 x.w)).setCell ⟨w.heap.size + 2, 1, none⟩ (.int .i64 x.h)).setCell ⟨w.heap.size + 2, 2, none⟩ (.slice A3 x.l.length k3) := ⟨_, rfl⟩
                rw [← hW4] at T4 hS4 ⊢
                clear hW4
                (with_reducible refine (cuMirror_any x.w x.h Ac _ kc x.l W4 rfl hkc (hS4.sqs) HGX.out).mono ?_)
                rintro e w5 ⟨A5, k5, Tl, rfl, hp, hs, ho5, hb5⟩
                obtain rfl := srt_uniq hp hs ((fill_mir (good_fill HGX.out)).dist)
                have T5 := T4.keep hb5
                have HT5 := Lib.hid T5
                have HO5 := Lib.hid ho5
                have hPz : w.heap.size + 2 < W4.heap.size := (T4).size
                clear c0 c1 c2 d0 d1 d2 f00 f01 f02 g00 g01 g02 hz hzN hkc
                clear hp hs ho5 hb5
                obtain ⟨Ac, kc, c0, c1, c2, hkc, hSc⟩ := id (T5).cur
                obtain ⟨Ab, kb, d0, d1, d2, hob, hnb⟩ := id (T5).best
                have f00 := (T5).fr w.heap.size 0 (.inl rfl)
                have f01 := (T5).fr w.heap.size 1 (.inl rfl)
                have f02 := (T5).fr w.heap.size 2 (.inl rfl)
                have g00 := (T5).fr (w.heap.size + 2) 0 (.inr (.inr rfl))
                have g01 := (T5).fr (w.heap.size + 2) 1 (.inr (.inr rfl))
                have g02 := (T5).fr (w.heap.size + 2) 2 (.inr (.inr rfl))
                have hz := (T5).size
                have hzN : w.heap.size < w5.heap.size := by omega
                clear T5 hSc hob hnb
                go_wp2_with fail
                go_roundw
                case rel =>
                  exact ⟨j + 1, true, _, by omega, by go_num, rfl, (HBO.out.yes HLQ.out).congr (HYES.out hwide), by rw [← HMX.out]; exact HT5.out.setCur x.w x.h (srt (mirL x.w x.l)) (srt_len _).symm HO5.out hPz⟩
                case measure => simp [intOf]; omega
              · have CF := callB_no (cuFirst_any x.w x.h b.w b.h Ac Ab _ _ kc kb x.l b.l wr rfl rfl (by omega) HT.out.len HSC.out (sqs_of_own HOB.out)) hlq
                have HLQ := Lib.hid hlq
                clear hlq
                go_wp2_with fail
                (with_reducible refine CF.mono ?_)
                rintro e w2 ⟨rfl, hb2⟩
                have T2 := HT.out.keep hb2
                clear c0 c1 c2 d0 d1 d2 f00 f01 f02 g00 g01 g02 hz hzN hkc
                clear CF hb2
                obtain ⟨Ac, kc, c0, c1, c2, hkc, hSc⟩ := id (T2).cur
                obtain ⟨Ab, kb, d0, d1, d2, hob, hnb⟩ := id (T2).best
                have f00 := (T2).fr w.heap.size 0 (.inl rfl)
                have f01 := (T2).fr w.heap.size 1 (.inl rfl)
                have f02 := (T2).fr w.heap.size 2 (.inl rfl)
                have g00 := (T2).fr (w.heap.size + 2) 0 (.inr (.inr rfl))
                have g01 := (T2).fr (w.heap.size + 2) 1 (.inr (.inr rfl))
                have g02 := (T2).fr (w.heap.size + 2) 2 (.inr (.inr rfl))
                have hz := (T2).size
                have hzN : w.heap.size < w2.heap.size := by omega
                go_wp2_with fail
                (with_reducible refine (cuMirror_any x.w x.h Ac _ kc x.l w2 rfl hkc (hSc.sqs) HGX.out).mono ?_)
                rintro e w5 ⟨A5, k5, Tl, rfl, hp, hs, ho5, hb5⟩
                obtain rfl := srt_uniq hp hs ((fill_mir (good_fill HGX.out)).dist)
                have T5 := T2.keep hb5
                have HT5 := Lib.hid T5
                have HO5 := Lib.hid ho5
                have hPz : w.heap.size + 2 < w2.heap.size := (T2).size
                clear c0 c1 c2 d0 d1 d2 f00 f01 f02 g00 g01 g02 hz hzN hkc
                clear hp hs ho5 hb5
                obtain ⟨Ac, kc, c0, c1, c2, hkc, hSc⟩ := id (T5).cur
                obtain ⟨Ab, kb, d0, d1, d2, hob, hnb⟩ := id (T5).best
                have f00 := (T5).fr w.heap.size 0 (.inl rfl)
                have f01 := (T5).fr w.heap.size 1 (.inl rfl)
                have f02 := (T5).fr w.heap.size 2 (.inl rfl)
                have g00 := (T5).fr (w.heap.size + 2) 0 (.inr (.inr rfl))
                have g01 := (T5).fr (w.heap.size + 2) 1 (.inr (.inr rfl))
                have g02 := (T5).fr (w.heap.size + 2) 2 (.inr (.inr rfl))
                have hz := (T5).size
                have hzN : w.heap.size < w5.heap.size := by omega
                clear T5 hSc hob hnb
                go_wp2_with fail
                go_roundw
                case rel =>
                  exact ⟨j + 1, true, _, by omega, by go_num, rfl, (HBO.out.no HLQ.out).congr (HYES.out hwide), by rw [← HMX.out]; exact HT5.out.setCur x.w x.h (srt (mirL x.w x.l)) (srt_len _).symm HO5.out hPz⟩
                case measure => simp [intOf]; omega
          · go_wp2_with fail
            (with_reducible refine (cuMirror_any x.w x.h Ac _ kc x.l wr rfl hkc (HSC.out) HGX.out).mono ?_)
            rintro e w5 ⟨A5, k5, Tl, rfl, hp, hs, ho5, hb5⟩
            obtain rfl := srt_uniq hp hs ((fill_mir (good_fill HGX.out)).dist)
            have T5 := HT.out.keep hb5
            have HT5 := Lib.hid T5
            have HO5 := Lib.hid ho5
            have hPz : w.heap.size + 2 < wr.heap.size := (HT.out).size
            clear c0 c1 c2 d0 d1 d2 f00 f01 f02 g00 g01 g02 hz hzN hkc
            clear hp hs ho5 hb5
            obtain ⟨Ac, kc, c0, c1, c2, hkc, hSc⟩ := id (T5).cur
            obtain ⟨Ab, kb, d0, d1, d2, hob, hnb⟩ := id (T5).best
            have f00 := (T5).fr w.heap.size 0 (.inl rfl)
            have f01 := (T5).fr w.heap.size 1 (.inl rfl)
            have f02 := (T5).fr w.heap.size 2 (.inl rfl)
            have g00 := (T5).fr (w.heap.size + 2) 0 (.inr (.inr rfl))
            have g01 := (T5).fr (w.heap.size + 2) 1 (.inr (.inr rfl))
            have g02 := (T5).fr (w.heap.size + 2) 2 (.inr (.inr rfl))
            have hz := (T5).size
            have hzN : w.heap.size < w5.heap.size := by omega
            clear T5 hSc hob hnb
            go_wp2_with fail
            go_roundw
            case rel =>
              exact ⟨j + 1, found, _, by omega, by go_num, rfl, (HBO.out).congr (HNO.out hwide), by rw [← HMX.out]; exact HT5.out.setCur x.w x.h (srt (mirL x.w x.l)) (srt_len _).symm HO5.out hPz⟩
            case measure => simp [intOf]; omega
        · obtain rfl : j = 2 := by omega
          have hGx : Good (F.it i C0).w (F.it i C0).h (F.it i C0).l := F.good_it HGC.out i
          obtain ⟨x, hx⟩ : ∃ x, F.it i C0 = x := ⟨_, rfl⟩
          have hT : TB w (w.heap.size + 2) (F.it i C0) b wr := hT
          have hnx : F.it (i + 1) C0 = F.tC x := by rw [← hx]; rfl
          rw [hx] at hT hGx
          have hwb : x.w ≤ 500 ∧ x.h ≤ 500 := ⟨hGx.1.2, hGx.2.1.2⟩
          have HNX := Lib.hid hnx
          have HBO := Lib.hid hBO
          have HGX := Lib.hid hGx
          clear hx hnx hBO hGx
          obtain ⟨Ac, kc, c0, c1, c2, hkc, hSc⟩ := id (hT).cur
          obtain ⟨Ab, kb, d0, d1, d2, hob, hnb⟩ := id (hT).best
          have f00 := (hT).fr w.heap.size 0 (.inl rfl)
          have f01 := (hT).fr w.heap.size 1 (.inl rfl)
          have f02 := (hT).fr w.heap.size 2 (.inl rfl)
          have g00 := (hT).fr (w.heap.size + 2) 0 (.inr (.inr rfl))
          have g01 := (hT).fr (w.heap.size + 2) 1 (.inr (.inr rfl))
          have g02 := (hT).fr (w.heap.size + 2) 2 (.inr (.inr rfl))
          have hz := (hT).size
          have hzN : w.heap.size < wr.heap.size := by omega
          have HT := Lib.hid hT
          have HSC := Lib.hid hSc
          clear hT hSc hob hnb
          go_wp2_with fail
          (with_reducible refine (cuTurn_any x.w x.h Ac _ kc x.l wr rfl hkc HSC.out.sqs HGX.out).mono ?_)
          rintro e w5 ⟨A5, k5, Tl, rfl, hp, hs, ho5, hb5⟩
          obtain rfl := srt_uniq hp hs ((fill_turn (good_fill HGX.out)).dist)
          have T5 := HT.out.keep hb5
          have HT5 := Lib.hid T5
          have HO5 := Lib.hid ho5
          clear c0 c1 c2 d0 d1 d2 f00 f01 f02 g00 g01 g02 hz hzN hkc
          clear hp hs ho5 hb5
          have hPz : w.heap.size + 2 < wr.heap.size := HT.out.size
          obtain ⟨Ac, kc, c0, c1, c2, hkc, hSc⟩ := id (T5).cur
          obtain ⟨Ab, kb, d0, d1, d2, hob, hnb⟩ := id (T5).best
          have f00 := (T5).fr w.heap.size 0 (.inl rfl)
          have f01 := (T5).fr w.heap.size 1 (.inl rfl)
          have f02 := (T5).fr w.heap.size 2 (.inl rfl)
          have g00 := (T5).fr (w.heap.size + 2) 0 (.inr (.inr rfl))
          have g01 := (T5).fr (w.heap.size + 2) 1 (.inr (.inr rfl))
          have g02 := (T5).fr (w.heap.size + 2) 2 (.inr (.inr rfl))
          have hz := (T5).size
          have hzN : w.heap.size < w5.heap.size := by omega
          clear T5 hSc hob hnb
          go_wp2_with fail
          go_roundw
          case rel => exact ⟨i + 1, found, b, by omega, by go_num, rfl, HBO.out.congr (F.SM_next C0 i), by rw [HNX.out]; exact HT5.out.setCur x.h x.w (srt (turnL x.h x.l)) (srt_len _).symm HO5.out hPz⟩
          case measure => simp [intOf]; omega
    · obtain rfl : i = 4 := by omega
      have hBO := HBO.out
      obtain rfl := F.found_all HGC.out hBO
      have hT := HT.out
      have HB := Lib.hid hBO
      clear hBO
      obtain ⟨Ac, kc, c0, c1, c2, hkc, hSc⟩ := id (hT).cur
      obtain ⟨Ab, kb, d0, d1, d2, hob, hnb⟩ := id (hT).best
      have f00 := (hT).fr w.heap.size 0 (.inl rfl)
      have f01 := (hT).fr w.heap.size 1 (.inl rfl)
      have f02 := (hT).fr w.heap.size 2 (.inl rfl)
      have g00 := (hT).fr (w.heap.size + 2) 0 (.inr (.inr rfl))
      have g01 := (hT).fr (w.heap.size + 2) 1 (.inr (.inr rfl))
      have g02 := (hT).fr (w.heap.size + 2) 2 (.inr (.inr rfl))
      have hz := (hT).size
      have hzN : w.heap.size < wr.heap.size := by omega
      obtain ⟨r0, r1, r2⟩ := id hT.res
      have h00 := hT.fr (w.heap.size + 1) 0 (.inr (.inl rfl))
      have h01 := hT.fr (w.heap.size + 1) 1 (.inr (.inl rfl))
      have h02 := hT.fr (w.heap.size + 1) 2 (.inr (.inl rfl))
      have hzN1 : w.heap.size + 1 < wr.heap.size := by omega
      have hne : (Value.slice Ab b.l.length kb).ownBlock ≠ some (w.heap.size + 1) := fun e => hnb _ e (.inr (.inl rfl))
      have R := ownsRow_setCell_other (ownsRow_setCell_other (ownsRow_setCell_other hob (a := ⟨w.heap.size + 1, 0, none⟩) hne (.int .i64 b.w)) (a := ⟨w.heap.size + 1, 1, none⟩) hne (.int .i64 b.h)) (a := ⟨w.heap.size + 1, 2, none⟩) hne (.slice Ab b.l.length kb)
      have hBE := ((hT.below.setCell (p := ⟨w.heap.size + 1, 0, none⟩) (by simp) (.int .i64 b.w)).setCell (p := ⟨w.heap.size + 1, 1, none⟩) (by simp) (.int .i64 b.h)).setCell (p := ⟨w.heap.size + 1, 2, none⟩) (by simp) (.slice Ab b.l.length kb)
      have HR := Lib.hid R
      have HBE := Lib.hid hBE
      clear hT HT HBO hSc hob hnb hne R hBE
      go_wp2_with fail
      refine bodyPost_ret (v := .agg #[.int .i64 b.w, .int .i64 b.h, .slice Ab b.l.length kb]) (by simp [results, Try.results85, go_sem, r0, r1, r2]) rfl ?_
      exact ⟨Ab, kb, b, rfl, HB.out, HR.out, HBE.out⟩
end Go.Proofs.Ytchabjmdjpfkfaa
