/- Cuts by lines: the program's table, FewestByLines. -/
import Derived.Test.YtlfikjjdhmaemaaLineI
set_option linter.all false
namespace Go.Proofs.Ytlfikjjdhmaemaa
open Go.RowKit
theorem zeroLin : Try.zeroCells124 = Array.replicate 3721 (.int .i64 0) := by kernel_rfl
theorem lin0 (w : World) (t : TypeId) : LinAt (w.alloc (.cells Try.zeroCells124 t)) w.heap.size (fun _ _ => 0) := by
  rw [zeroLin]
  refine ⟨by simp, fun x y hx hy => ?_, fun o => by simp [go_sem]⟩
  have h : x * 61 + y < 3721 := by omega
  rw [World.cell?_alloc_new, Array.getElem?_replicate, if_pos h]
def upT (T : Nat → Nat → Int) (a b : Nat) (v : Int) : Nat → Nat → Int := fun x y => if x = a ∧ y = b then v else T x y
theorem LinAt.put {w : World} {b : Nat} {T : Nat → Nat → Int} (h : LinAt w b T) {p q : Nat} (_hp : p ≤ 60) (hq : q ≤ 60) (v : Int) : LinAt (w.setCell ⟨b, p * 61 + q, none⟩ (.int .i64 v)) b (upT T p q v) := by
  obtain ⟨h1, h2, h3⟩ := h
  refine ⟨by simpa using h1, fun x y hx hy => ?_, fun o => by simpa [go_sem] using h3 o⟩
  have hxy := h2 x y hx hy
  by_cases e : x = p ∧ y = q
  · obtain ⟨rfl, rfl⟩ := e
    simp [upT, go_sem, hxy]
  · have hne : ¬ (x * 61 + y = p * 61 + q) := fun e' => e (by omega)
    simp [upT, e, go_sem, hne, hxy]
def DoneT (T : Nat → Nat → Int) (H k j : Nat) : Prop := ∀ x y, 1 ≤ x → 1 ≤ y → y ≤ H → (x ≤ k ∨ (x = k + 1 ∧ y ≤ j)) → T x y = best x y
theorem SL.keep {w wp w' : World} {T : Nat → Nat → Int} {k j : Nat} (h : Below w.heap.size w wp ∧ ∃ T', LinAt wp w.heap.size T' ∧ ∀ x y, ¬ (x = k + 1 ∧ y = j + 1) → T' x y = T x y) (hb : Below wp.heap.size wp w') :
    Below w.heap.size w w' ∧ ∃ T', LinAt w' w.heap.size T' ∧ ∀ x y, ¬ (x = k + 1 ∧ y = j + 1) → T' x y = T x y := by
  obtain ⟨h1, T', h2, h3⟩ := h
  exact ⟨h1.trans (hb.mono h1.size), T', h2.below hb, h3⟩
theorem SL.put {w wp : World} {T : Nat → Nat → Int} {k j : Nat} (h : Below w.heap.size w wp ∧ ∃ T', LinAt wp w.heap.size T' ∧ ∀ x y, ¬ (x = k + 1 ∧ y = j + 1) → T' x y = T x y) (hk : k + 1 ≤ 60) (hj : j + 1 ≤ 60) (v : Int) :
    Below w.heap.size w (wp.setCell ⟨w.heap.size, (k + 1) * 61 + (j + 1), none⟩ (.int .i64 v)) ∧ ∃ T', LinAt (wp.setCell ⟨w.heap.size, (k + 1) * 61 + (j + 1), none⟩ (.int .i64 v)) w.heap.size T' ∧ ∀ x y, ¬ (x = k + 1 ∧ y = j + 1) → T' x y = T x y := by
  obtain ⟨h1, T', h2, h3⟩ := h
  refine ⟨h1.setCell (p := ⟨w.heap.size, (k + 1) * 61 + (j + 1), none⟩) (Nat.le_refl _) _, _, h2.put hk hj v, fun x y hxy => ?_⟩
  rw [show upT T' (k + 1) (j + 1) v x y = T' x y from if_neg hxy, h3 x y hxy]
theorem SL.cell {w wp : World} {T : Nat → Nat → Int} {k j : Nat} (h : Below w.heap.size w wp ∧ ∃ T', LinAt wp w.heap.size T' ∧ ∀ x y, ¬ (x = k + 1 ∧ y = j + 1) → T' x y = T x y) (hk : k + 1 ≤ 60) (hj : j + 1 ≤ 60) :
    ∃ v, wp.cell? ⟨w.heap.size, (k + 1) * 61 + (j + 1), none⟩ = some v ∧ wp.frozen? ⟨w.heap.size, (k + 1) * 61 + (j + 1), none⟩ = false := by
  obtain ⟨h1, T', h2, h3⟩ := h
  exact ⟨_, h2.2.1 _ _ hk hj, h2.2.2 _⟩
theorem SL.done {w wp : World} {T : Nat → Nat → Int} {k j H : Nat} (h : Below w.heap.size w wp ∧ ∃ T', LinAt wp w.heap.size T' ∧ ∀ x y, ¬ (x = k + 1 ∧ y = j + 1) → T' x y = T x y) (hk : k + 1 ≤ 60) (hj : j + 1 ≤ 60) (hD : DoneT T H k j) :
    ∃ T', LinAt (wp.setCell ⟨w.heap.size, (k + 1) * 61 + (j + 1), none⟩ (.int .i64 (best (k + 1) (j + 1)))) w.heap.size T' ∧ DoneT T' H k (j + 1) := by
  obtain ⟨h1, T', h2, h3⟩ := h
  refine ⟨_, h2.put hk hj _, fun x y a b c d => ?_⟩
  by_cases e : x = k + 1 ∧ y = j + 1
  · obtain ⟨rfl, rfl⟩ := e
    exact if_pos ⟨rfl, rfl⟩
  · rw [show upT T' (k + 1) (j + 1) (best (k + 1) (j + 1)) x y = T' x y from if_neg e, h3 x y e]
    exact hD x y a b c (by omega)

set_option maxRecDepth 100000 in
set_option maxHeartbeats 16000000 in
theorem countLined_any (W H : Nat) (w : World) (hW : W ≤ 60) (hH : H ≤ 60) :
    Calls Try.prog 91 #[.int .i64 W, .int .i64 H] w fun e w' => e = .returned (.pointer (some ⟨w.heap.size, 0, none⟩)) ∧ Below w.heap.size w w' ∧ ∃ T, LinAt w' w.heap.size T ∧ ∀ x y, 1 ≤ x → x ≤ W → 1 ≤ y → y ≤ H → T x y = best x y := by
  obtain ⟨W1, hW1⟩ : ∃ W1, W1 = w.alloc (.cells Try.zeroCells124 124) := ⟨_, rfl⟩
  have hL1 : LinAt W1 w.heap.size (fun _ _ => 0) := by rw [hW1]; exact lin0 w _
  have hB1 : Below w.heap.size w W1 := by rw [hW1]; exact (Below.refl _ _).alloc (Nat.le_refl _) _
  go_enter Try.func91, Try.ntmps91
  go_wp2_with fail
  rw [← hW1]
  clear hW1
  go_loopw [6] (fun i wr => ∃ k : Nat, k ≤ W ∧ i = .int .i64 ((k : Int) + 1) ∧ Below w.heap.size w wr ∧ ∃ T, LinAt wr w.heap.size T ∧ DoneT T H k 0) (fun i _ => W + 1 - (intOf i).toNat)
  case atStart => exact ⟨0, Nat.zero_le _, rfl, hB1, _, hL1, fun x y a b c d => by omega⟩
  case round =>
    obtain ⟨k, hk, rfl, hb, T0, hT0, hD0⟩ := hrel
    have HD0 := Lib.hid hD0
    clear hD0 hL1 hB1
    by_cases hlt : k < W
    · have i1 : (k : Int) + 1 ≤ (W : Int) := by omega
      go_wp2_with fail
      go_loopw [7] (fun i w5 => ∃ j : Nat, j ≤ H ∧ i = .int .i64 ((j : Int) + 1) ∧ Below w.heap.size w w5 ∧ ∃ T, LinAt w5 w.heap.size T ∧ DoneT T H k j) (fun i _ => H + 1 - (intOf i).toNat)
      case atStart => exact ⟨0, Nat.zero_le _, rfl, hb, T0, hT0, HD0.out⟩
      case round =>
        obtain ⟨j, hj, rfl, hb5, T, hT, hD⟩ := hrel
        have HD := Lib.hid hD
        clear hD hT0 hb
        by_cases hlj : j < H
        · have i2 : (j : Int) + 1 ≤ (H : Int) := by omega
          have HBC : Hid (∀ w' : World, (fun w' => Below w.heap.size w w' ∧ ∃ T', LinAt w' w.heap.size T' ∧ ∀ x y, ¬ (x = k + 1 ∧ y = j + 1) → T' x y = T x y) w' → Calls Try.prog 116 #[.pointer (some ⟨w.heap.size, 0, none⟩), .int .i64 ((k : Int) + 1), .int .i64 ((j : Int) + 1)] w' fun e w2 => e = .returned (.tuple #[.int .i64 (best (k + 1) (j + 1)), .int .i64 (lnDown (k + 1) (j + 1)), .int .i64 (lnAcross (k + 1) (j + 1))]) ∧ Below w'.heap.size w' w2) := Lib.hid fun w' h => by
            obtain ⟨_, T', h2, h3⟩ := h
            have h5 := bestLine_any w.heap.size (k + 1) (j + 1) T' w' h2 (by omega) (by omega) (by omega) (by omega)
              (fun x a b => by rw [h3 x (j + 1) (by omega)]; exact HD.out x (j + 1) a (by omega) (by omega) (by omega))
              (fun y a b => by rw [h3 (k + 1) y (by omega)]; exact HD.out (k + 1) y (by omega) a (by omega) (by omega))
            have e1 : ((k + 1 : Nat) : Int) = (k : Int) + 1 := by omega
            have e2 : ((j + 1 : Nat) : Int) = (j : Int) + 1 := by omega
            rw [e1, e2] at h5
            exact h5
          have HS0 : Hid ((fun w' => Below w.heap.size w w' ∧ ∃ T', LinAt w' w.heap.size T' ∧ ∀ x y, ¬ (x = k + 1 ∧ y = j + 1) → T' x y = T x y) wr) := Lib.hid ⟨hb5, T, hT, fun _ _ _ => rfl⟩
          have k0 : (0 : Int) ≤ (k : Int) + 1 := by omega
          have k1 : (k : Int) + 1 < 61 := by omega
          have k2 : (0 : Int) ≤ (j : Int) + 1 := by omega
          have k3 : (j : Int) + 1 < 61 := by omega
          have hk60 : k + 1 ≤ 60 := by omega
          have hj60 : j + 1 ≤ 60 := by omega
          clear hT hb5
          go_wp2_with fail
          go_region_held3 (fun w' => Below w.heap.size w w' ∧ ∃ T', LinAt w' w.heap.size T' ∧ ∀ x y, ¬ (x = k + 1 ∧ y = j + 1) → T' x y = T x y)
            (first | assumption | exact HS0.out | exact SL.keep HS0.out (Below.refl _ _).drew | exact SL.put (by assumption) hk60 hj60 _ | exact SL.keep (by assumption) (by assumption))
            (first
              | (go_at_call 116; refine (HBC.out _ (by assumption)).mono ?_; rintro e w2 ⟨rfl, hb2⟩; have hS2 := SL.keep (by assumption) hb2; obtain ⟨v2, e2, f2⟩ := SL.cell hS2 hk60 hj60)
              | (go_at_call 116; refine (HBC.out _ HS0.out).mono ?_; rintro e w2 ⟨rfl, hb2⟩; have hS2 := SL.keep HS0.out hb2; obtain ⟨v2, e2, f2⟩ := SL.cell hS2 hk60 hj60))
          have HS2 := Lib.hid hS2
          clear hS2 e2 f2 HBC HS0
          go_wp2_with fail
          go_roundw
          case rel =>
            obtain ⟨T', hT', hD'⟩ := SL.done HS2.out hk60 hj60 HD.out
            exact ⟨j + 1, by omega, by simp, (SL.put HS2.out hk60 hj60 _).1, T', hT', hD'⟩
          case measure => simp [intOf]; omega
        · obtain rfl : j = H := by omega
          have i2 : ¬ (j : Int) + 1 ≤ (j : Int) := by omega
          go_wp2_with fail
          go_roundw
          case rel => exact ⟨k + 1, by omega, by simp, hb5, T, hT, fun x y a b c d => HD.out x y a b c (by omega)⟩
          case measure => simp [intOf]; omega
    · obtain rfl : k = W := by omega
      have i1 : ¬ (k : Int) + 1 ≤ (k : Int) := by omega
      go_wp2_with fail
      go_ret
      exact ⟨rfl, hb, T0, hT0, fun x y a b c d => HD0.out x y a c d (.inl b)⟩

noncomputable def fewL (W H : Int) : Int := if inB W 1 60 && inB H 1 60 then best W.toNat H.toNat else 0
theorem fewL_yes {W H : Nat} (h : (inB W 1 60 && inB H 1 60) = true) : fewL W H = best W H := by simp only [fewL, h, if_true, Int.toNat_natCast]
theorem fewL_no {W H : Int} (h : (inB W 1 60 && inB H 1 60) = false) : fewL W H = 0 := by simp [fewL, h]
set_option maxRecDepth 100000 in
set_option maxHeartbeats 4000000 in
theorem implFew_any (W H : Int) (w : World) : Calls Try.prog 46 #[.int .i64 W, .int .i64 H] w fun e w' => e = .returned (.tuple #[.int .i64 (fewL W H), .bool (inB W 1 60 && inB H 1 60)]) ∧ Below w.heap.size w w' := by
  have ha := areUpTo_any 60 W H w
  cases hok : inB W 1 60 && inB H 1 60 with
  | false =>
    rw [fewL_no hok]
    rw [hok] at ha
    go_enter Try.func46, Try.ntmps46
    go_wp2_with fail
    refine ha.mono ?_
    rintro e w' ⟨rfl, rfl⟩
    go_wp2_with fail
    go_ret2
    exact ⟨rfl, Below.refl _ _⟩
  | true =>
    have h2 : (1 ≤ W ∧ W ≤ 60) ∧ 1 ≤ H ∧ H ≤ 60 := by simpa [inB] using hok
    obtain ⟨m, rfl⟩ := Int.eq_ofNat_of_zero_le (show 0 ≤ W by omega)
    obtain ⟨n, rfl⟩ := Int.eq_ofNat_of_zero_le (show 0 ≤ H by omega)
    rw [fewL_yes hok]
    rw [hok] at ha
    have k0 : (0 : Int) ≤ (m : Int) := by omega
    have k1 : (m : Int) < 61 := by omega
    have k2 : (0 : Int) ≤ (n : Int) := by omega
    have k3 : (n : Int) < 61 := by omega
    clear hok
    go_enter Try.func46, Try.ntmps46
    go_wp2_with fail
    refine ha.mono ?_
    rintro e w' ⟨rfl, rfl⟩
    go_wp2_with fail
    refine (countLined_any m n _ (by omega) (by omega)).mono ?_
    rintro e w2 ⟨rfl, hb2, T, hT, hD⟩
    have hc := hT.2.1 m n (by omega) (by omega)
    rw [hD m n (by omega) (by omega) (by omega) (by omega)] at hc
    clear hT hD
    go_wp2_with fail
    go_ret2
    exact ⟨rfl, hb2⟩
end Go.Proofs.Ytlfikjjdhmaemaa
