/- Contract of the model's GrowCut. -/
import Derived.Test.YtnnhgblgbbfmpaaMake
import Derived.Test.YtnnhgblgbbfmpaaTurnT
set_option linter.all false
namespace Go.Proofs.Ytnnhgblgbbfmpaa
open Go.RowKit

def GrowOk (W H : Int) (L : List Sq) (k : Int) : Prop := Good W H L ∧ 1 ≤ k ∧ k * W ≤ 500 ∧ k * H ≤ 500
noncomputable def growX (W H : Int) (L : List Sq) (k X : Int) : Int := if dc (GrowOk W H L k) then k * X else 0
noncomputable def growR (W H : Int) (L : List Sq) (k : Int) : List Sq := if dc (GrowOk W H L k) then growL k L else []
theorem growX_yes {W H k X : Int} {L : List Sq} (h : GrowOk W H L k) : growX W H L k X = k * X := by simp [growX, dc_true h]
theorem growX_no {W H k X : Int} {L : List Sq} (h : ¬ GrowOk W H L k) : growX W H L k X = 0 := by simp [growX, dc_false h]
theorem growR_yes {W H k : Int} {L : List Sq} (h : GrowOk W H L k) : growR W H L k = growL k L := by simp [growR, dc_true h]
theorem growR_no {W H k : Int} {L : List Sq} (h : ¬ GrowOk W H L k) : growR W H L k = [] := by simp [growR, dc_false h]
def RetGrow (w : World) (W H : Int) (L : List Sq) (k : Int) (e : Ending) (w' : World) : Prop := RetCut w (growX W H L k W) (growX W H L k H) (growR W H L k) (dc (GrowOk W H L k)) e w'
theorem RetGrow.no {w w' : World} {W H k : Int} {L : List Sq} (h : ¬ GrowOk W H L k) (hb : Below w.heap.size w w') : RetGrow w W H L k (.returned (.tuple #[.agg #[.int .i64 0, .int .i64 0, .slice none 0 0], .bool false])) w' := by
  unfold RetGrow
  rw [growX_no h, growX_no h, growR_no h, dc_false h]
  exact RetCut.none_ hb
theorem grow_made {W H k : Int} {L : List Sq} (hG : Good W H L) (hk : 1 ≤ k) :
    cutX (k * W) (k * H) (srt (growL k L)) (k * W) = growX W H L k W ∧ cutX (k * W) (k * H) (srt (growL k L)) (k * H) = growX W H L k H ∧ ifGood (k * W) (k * H) (srt (growL k L)) (srt (growL k L)) = growR W H L k ∧ dc (Good (k * W) (k * H) (srt (growL k L))) = dc (GrowOk W H L k) := by
  by_cases h : GrowOk W H L k
  · have hg := good_grow hG hk h.2.2.1 h.2.2.2
    have e := good_sorted hg
    rw [e, cutX_yes hg, cutX_yes hg, ifGood_yes hg, dc_true hg, growX_yes h, growX_yes h, growR_yes h, dc_true h]
    exact ⟨rfl, rfl, rfl, rfl⟩
  · have hg : ¬ Good (k * W) (k * H) (srt (growL k L)) := fun g => h ⟨hG, hk, g.1.2, g.2.1.2⟩
    rw [cutX_no hg, cutX_no hg, ifGood_no hg, dc_false hg, growX_no h, growX_no h, growR_no h, dc_false h]
    exact ⟨rfl, rfl, rfl, rfl⟩
theorem prod_bd {k x : Int} (k0 : 1 ≤ k) (k1 : k ≤ 500) (h0 : 0 ≤ x) (h1 : x ≤ 500) : 0 ≤ k * x ∧ k * x ≤ 250000 :=
  ⟨Int.mul_nonneg (by omega) h0, by have := Int.mul_le_mul k1 h1 h0 (by decide); omega⟩

set_option maxRecDepth 100000 in
set_option maxHeartbeats 2000000 in
theorem specGrow_any (W H : Int) (A : Option Addr) (n c : Nat) (L : List Sq) (k : Int) (w : World) (hl : L.length = n) (hc : n ≤ c) (hL : SqsAt w w.heap.size A L) :
    Calls Try.prog 22 #[.agg #[.int .i64 W, .int .i64 H, .slice A n c], .int .i64 k] w (RetGrow w W H L k) := by
  subst hl
  have Z0 : Box w.heap.size w (w.alloc (.cells #[.int .i64 W, .int .i64 H, .slice A L.length c] 28)) W H A c L := Box.start hL
  have Z1 := Z0.next ((Below.refl _ _).alloc (Nat.le_refl _) (.cells #[.int .i64 0, .int .i64 0, .slice none 0 0] 28))
  have q1 : Bx (w.heap.size + 1) ((w.alloc (.cells #[.int .i64 W, .int .i64 H, .slice A L.length c] 28)).alloc (.cells #[.int .i64 0, .int .i64 0, .slice none 0 0] 28)) 0 0 none 0 0 := by simpa using Bx.start (w.alloc (.cells #[.int .i64 W, .int .i64 H, .slice A L.length c] 28)) 0 0 none 0 0 28
  obtain ⟨W1, hW1⟩ : ∃ W1, W1 = ((w.alloc (.cells #[.int .i64 W, .int .i64 H, .slice A L.length c] 28)).alloc (.cells #[.int .i64 0, .int .i64 0, .slice none 0 0] 28)) := ⟨_, rfl⟩
  have hz : W1.heap.size = w.heap.size + 2 := by rw [hW1]; simp
  rw [← hW1] at Z1 q1
  have qf : ∀ o, W1.frozen? ⟨w.heap.size + 1, o, none⟩ = false := by intro o; rw [hW1]; exact World.frozen?_alloc_at _ _ _ _ (by simp)
  obtain ⟨hB1, hz1', b0, b1, b2, hL1⟩ := id Z1
  clear Z0
  by_cases hG : Good W H L
  · by_cases hk : 1 ≤ k ∧ k ≤ 500
    · have hmade := Lib.hid (grow_made hG hk.1)
      have d1 := Lib.hid (inB_iff.2 hk)
      have hg30 := hG.2.2.1.2
      have hW := hG.1
      have hH := hG.2.1
      go_enter Try.func22, Try.ntmps22
      go_wp2_with fail
      rw [← hW1]
      refine (callB_yes (cuGood_any W H A _ c L _ rfl hc (hL1.mono hB1.size)) hG).mono ?_
      rintro e w2 ⟨rfl, hb2⟩
      have Z2 := Z1.next hb2
      have q2 := q1.next hb2
      have qf2 : ∀ o, w2.frozen? ⟨w.heap.size + 1, o, none⟩ = false := fun o => (hb2.frozen (p := ⟨w.heap.size + 1, o, none⟩) (by simp; omega)).trans (qf o)
      have hs2 := hb2.size
      clear hb2 Z1 q1 qf b0 b1 b2 hL1 hB1 hz1' hW1
      obtain ⟨hB2, hz2', b0, b1, b2, hL2⟩ := id Z2
      obtain ⟨i0, hi, hz0, hz1, hz2⟩ := info_parts infoSq
      go_wp2_with fail
      refine (l1In_any _ _ _ _).mono ?_
      rw [d1.out]
      rintro e w' ⟨rfl, rfl⟩
      go_wp2_with fail
      clear b0 b1 b2 hL2
      go_loopw [6, 21] (fun v i wr => ∃ j : Nat, j ≤ L.length ∧ i = .int .i64 j ∧ Below w2.heap.size w2 wr ∧ wr.ownsRow w2.heap.size 71 3 v j (flat (growL k (L.take j)))) (fun _ i _ => L.length - (intOf i).toNat)
      case atStart => exact ⟨0, Nat.zero_le _, rfl, Below.refl _ _, World.ownsRow_nil _ _ _ _⟩
      case round =>
        obtain ⟨j, hj, rfl, hbr, hown1⟩ := hrel
        have hsr := hbr.size
        have Zr := Z2.next hbr
        obtain ⟨hBr, hzw, b0, b1, b2, hLr⟩ := id Zr
        obtain ⟨A3, c3, rfl⟩ := own_val hown1
        by_cases hlt : j < L.length
        · obtain ⟨s, hs⟩ : ∃ s, L[j]? = some s := ⟨_, List.getElem?_eq_getElem hlt⟩
          obtain ⟨b, off, rfl, hb, c0, c1, c2⟩ := hLr j s hs
          have hin : Within s W H := (hG.2.2.2.1 j s hs).1
          unfold Within at hin
          obtain ⟨p0, p1⟩ := prod_bd (x := s.x) hk.1 hk.2 (by omega) (by omega)
          obtain ⟨p2, p3⟩ := prod_bd (x := s.y) hk.1 hk.2 (by omega) (by omega)
          obtain ⟨p4, p5⟩ := prod_bd (x := s.d) hk.1 hk.2 (by omega) (by omega)
          have HS := Lib.hid hs
          clear hs hL Z2 q2 qf2 hG hLr Zr
          have k0 : (0 : Int) ≤ (j : Int) := by omega
          have k1 : (j : Int) < (L.length : Int) := by omega
          have hbl : j + 1 ≤ maxLen := by unfold maxLen; omega
          have hby : (j + 1) * 24 ≤ 140737488355328 := by omega
          go_wp2_with (at_builtin; refine app_list rfl _ _ _ rfl w2.heap.size 71 i0 (.agg #[.int .i64 0, .int .i64 0, .int .i64 0]) 3 24 Try.underlying26 hi hz0 hz1 hz2 rfl (by decide) (.slice A3 j c3) j _ rfl ((hown1.alloc _).alloc _) (some ⟨wr.heap.size + 1, 0, none⟩) 1 1 [.int .i64 (k * s.x), .int .i64 (k * s.y), .int .i64 (k * s.d)] rfl rfl (.inr ⟨_, rfl, new3' _ _ _ _ _ _⟩) (one3 _ _ _) hbl hby (by simp; omega) ?_; intro v' w4 hown4 hgr4 _; have hb4 : Below w2.heap.size w2 w4 := ((hbr.alloc hsr _).alloc (by simp; omega) _).grown hgr4 (by simp; omega) (fun kk hkk => (hown1.lt kk hkk).1))
          go_roundw
          case rel =>
            refine ⟨j + 1, by omega, by go_num, hb4, ?_⟩
            have e := flat_map_succ (growS k) L j s HS.out
            unfold growL at hown4 ⊢
            rw [e]
            exact hown4
          case measure => simp [intOf]; omega
        · obtain rfl : j = L.length := by omega
          rw [List.take_of_length_le (Nat.le_refl _)] at hown1
          have hll : (growL k L).length = L.length := growL_len k L
          obtain ⟨p0, p1⟩ := prod_bd (x := W) hk.1 hk.2 (by omega) (by omega)
          obtain ⟨p2, p3⟩ := prod_bd (x := H) hk.1 hk.2 (by omega) (by omega)
          have qr := q2.next hbr
          have tf : ∀ o, wr.frozen? ⟨w.heap.size + 1, o, none⟩ = false := fun o => (hbr.frozen (p := ⟨w.heap.size + 1, o, none⟩) (by simp; omega)).trans (qf2 o)
          clear hL Z2 hG q2 qf2 hLr Zr b2
          go_wp2_with fail
          refine (cuMake_any (k * W) (k * H) A3 L.length c3 (growL k L) wr hll (by omega) (sqs_of_own hown1)).mono ?_
          rintro e w5 hret
          unfold RetMake at hret
          rw [hmade.out.1, hmade.out.2.1, hmade.out.2.2.1, hmade.out.2.2.2] at hret
          obtain ⟨A5, c5, rfl, ho5, hb5⟩ := hret
          have q5 := qr.next hb5
          have hs5 := hb5.size
          have hzr1 : w.heap.size + 1 < wr.heap.size := by omega
          have t0 := (hb5.frozen (p := ⟨w.heap.size + 1, 0, none⟩) hzr1).trans (tf 0)
          have t1 := (hb5.frozen (p := ⟨w.heap.size + 1, 1, none⟩) hzr1).trans (tf 1)
          have t2 := (hb5.frozen (p := ⟨w.heap.size + 1, 2, none⟩) hzr1).trans (tf 2)
          obtain ⟨_, r0, r1, r2⟩ := id q5
          have hB5 := hBr.trans (hb5.mono (by omega))
          obtain ⟨X, hX⟩ : ∃ X, growX W H L k W = X := ⟨_, rfl⟩
          obtain ⟨Y, hY⟩ : ∃ Y, growX W H L k H = Y := ⟨_, rfl⟩
          obtain ⟨R, hR⟩ : ∃ R, growR W H L k = R := ⟨_, rfl⟩
          obtain ⟨ok, hO⟩ : ∃ ok, dc (GrowOk W H L k) = ok := ⟨_, rfl⟩
          have HX := Lib.hid hX
          have HY := Lib.hid hY
          have HRR := Lib.hid hR
          have HOO := Lib.hid hO
          rw [hX, hY, hR, hO]
          rw [hR] at ho5
          clear hX hY hR hO qr q5 tf b0 b1
          go_wp2_with fail
          have hB := ((hB5.setCell (p := ⟨w.heap.size + 1, 0, none⟩) (by simp) (.int .i64 X)).setCell (p := ⟨w.heap.size + 1, 1, none⟩) (by simp) (.int .i64 Y)).setCell (p := ⟨w.heap.size + 1, 2, none⟩) (by simp) (.slice A5 R.length c5)
          have RR := ownsRow_setCell_below (ownsRow_setCell_below (ownsRow_setCell_below ho5 (a := ⟨w.heap.size + 1, 0, none⟩) hzr1 (.int .i64 X)) (a := ⟨w.heap.size + 1, 1, none⟩) hzr1 (.int .i64 Y)) (a := ⟨w.heap.size + 1, 2, none⟩) hzr1 (.slice A5 R.length c5)
          refine bodyPost_ret (v := .tuple #[.agg #[.int .i64 X, .int .i64 Y, .slice A5 R.length c5], .bool ok]) (by simp [results, Try.results22, go_sem, r0, r1, r2]) rfl ?_
          unfold RetGrow
          rw [HX.out, HY.out, HRR.out, HOO.out]
          exact RetCut.mk rfl (own_base RR (by omega)) hB
    · have hno : ¬ GrowOk W H L k := fun h => hk ⟨h.2.1, by
        have h1 := h.2.2.1
        have h2 := (mul_le h.2.1).2 hG.1.1
        omega⟩
      have d1 : Hid (inB k 1 500 = false) := by
        show inB k 1 500 = false
        simp [inB]; omega
      go_enter Try.func22, Try.ntmps22
      go_wp2_with fail
      rw [← hW1]
      refine (callB_yes (cuGood_any W H A _ c L _ rfl hc (hL1.mono hB1.size)) hG).mono ?_
      rintro e w2 ⟨rfl, hb2⟩
      have q2 := q1.next hb2
      have qf2 : ∀ o, w2.frozen? ⟨w.heap.size + 1, o, none⟩ = false := fun o => (hb2.frozen (p := ⟨w.heap.size + 1, o, none⟩) (by simp; omega)).trans (qf o)
      have hB2 := hB1.trans (hb2.mono hB1.size)
      clear hb2 Z1 q1 qf b0 b1 b2 hL1 hB1 hz1' hW1 hG
      obtain ⟨_, r0, r1, r2⟩ := id q2
      have t0 := qf2 0
      have t1 := qf2 1
      have t2 := qf2 2
      clear q2 qf2
      go_wp2_with fail
      refine (l1In_any _ _ _ _).mono ?_
      rw [d1.out]
      rintro e w' ⟨rfl, rfl⟩
      go_wp2_with fail
      have hB := ((hB2.setCell (p := ⟨w.heap.size + 1, 0, none⟩) (by simp) (.int .i64 0)).setCell (p := ⟨w.heap.size + 1, 1, none⟩) (by simp) (.int .i64 0)).setCell (p := ⟨w.heap.size + 1, 2, none⟩) (by simp) (.slice none 0 0)
      refine bodyPost_ret (v := .tuple #[.agg #[.int .i64 0, .int .i64 0, .slice none 0 0], .bool false]) (by simp [results, Try.results22, go_sem, r0, r1, r2]) rfl ?_
      exact RetGrow.no hno hB
  · have hno : ¬ GrowOk W H L k := fun h => hG h.1
    go_enter Try.func22, Try.ntmps22
    go_wp2_with fail
    rw [← hW1]
    refine (callB_no (cuGood_any W H A _ c L _ rfl hc (hL1.mono hB1.size)) hG).mono ?_
    rintro e w2 ⟨rfl, hb2⟩
    have q2 := q1.next hb2
    have qf2 : ∀ o, w2.frozen? ⟨w.heap.size + 1, o, none⟩ = false := fun o => (hb2.frozen (p := ⟨w.heap.size + 1, o, none⟩) (by simp; omega)).trans (qf o)
    have hB2 := hB1.trans (hb2.mono hB1.size)
    clear hb2 Z1 q1 qf b0 b1 b2 hL1 hB1 hz1' hW1 hG
    obtain ⟨_, r0, r1, r2⟩ := id q2
    have t0 := qf2 0
    have t1 := qf2 1
    have t2 := qf2 2
    clear q2 qf2
    go_wp2_with fail
    have hB := ((hB2.setCell (p := ⟨w.heap.size + 1, 0, none⟩) (by simp) (.int .i64 0)).setCell (p := ⟨w.heap.size + 1, 1, none⟩) (by simp) (.int .i64 0)).setCell (p := ⟨w.heap.size + 1, 2, none⟩) (by simp) (.slice none 0 0)
    refine bodyPost_ret (v := .tuple #[.agg #[.int .i64 0, .int .i64 0, .slice none 0 0], .bool false]) (by simp [results, Try.results22, go_sem, r0, r1, r2]) rfl ?_
    exact RetGrow.no hno hB
end Go.Proofs.Ytnnhgblgbbfmpaa
