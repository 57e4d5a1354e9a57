/- Cuts that have the same squares. -/
import Derived.Test.YtdpbjmdgjhleeaaFirstD
import Derived.BigQuiet
set_option linter.all false
namespace Go.Proofs.Ytdpbjmdgjhleeaa
open Go.RowKit

theorem dc_take {a b : List Sq} (hl : a.length = b.length) {k : Nat} (h : a.take k = b.take k) (hk : a.length ≤ k) : a = b := by
  rwa [List.take_of_length_le hk, List.take_of_length_le (by omega)] at h
set_option maxRecDepth 100000 in
set_option maxHeartbeats 4000000 in
theorem equalSq_any (A A' : Option Addr) (n n' c c' : Nat) (a b : List Sq) (w : World) (hl : a.length = n) (hl' : b.length = n') (hn : n ≤ 1048576) (hn' : n' ≤ 1048576) (hA : SqsAt w w.heap.size A a) (hA' : SqsAt w w.heap.size A' b) :
    Calls Try.prog 120 #[.slice A n c, .slice A' n' c'] w fun e w' => e = .returned (.bool (dc (a = b))) ∧ Below w.heap.size w w' := by
  subst hl
  subst hl'
  by_cases hne : a.length = b.length
  · have e1 : ((a.length : Int) != (b.length : Int)) = false := by rw [hne]; simp
    have HNE := Lib.hid hne
    clear hne
    go_enter Try.func120, Try.ntmps120
    go_wp2_with fail
    go_loopw [13] (fun i wr => ∃ k : Nat, k ≤ a.length ∧ i = .int .i64 k ∧ a.take k = b.take k ∧ Below w.heap.size w wr) (fun i _ => a.length - (intOf i).toNat)
    case atStart => exact ⟨0, Nat.zero_le _, rfl, rfl, Below.refl _ _⟩
    case round =>
      obtain ⟨k, hka, rfl, hp, hbr⟩ := hrel
      have hzr := hbr.size
      by_cases h1 : k < a.length
      · obtain ⟨s, hs⟩ : ∃ s, a[k]? = some s := ⟨_, List.getElem?_eq_getElem h1⟩
        obtain ⟨b1, o1, rfl, hb1, c0, c1, c2⟩ := (hA.below hbr) k s hs
        have k0 : (0 : Int) ≤ (k : Int) := by omega
        have k1 : (k : Int) < (a.length : Int) := by omega
        have k2 : (k : Int) < (b.length : Int) := by have := HNE.out; omega
        obtain ⟨q, hq⟩ : ∃ q, b[k]? = some q := ⟨_, List.getElem?_eq_getElem (by have := HNE.out; omega)⟩
        obtain ⟨b2, o2, rfl, hb2, d0, d1, d2⟩ := (hA'.below hbr) k q hq
        have hb1' : b1 < wr.heap.size := by omega
        have hb2' : b2 < wr.heap.size := by omega
        have heq := eqSqF
        have HX := Lib.hid hs
        have HY := Lib.hid hq
        have HP := Lib.hid hp
        clear hs hq hp hA hA' e1
        by_cases hz : s = q
        · have ht : (s.x == q.x && s.y == q.y && s.d == q.d) = true := by rw [hz]; simp
          have HE := Lib.hid hz
          clear hz
          go_wp2_with fail
          go_quiet (fail)
          go_wp2_with fail
          go_roundw
          case rel => exact ⟨k + 1, by omega, by go_num, takeS_step HP.out HX.out (by rw [HE.out]; exact HY.out), by first | exact hbr | exact hbr.drew | exact below_drewN hbr _⟩
          case measure => simp [intOf]; omega
        · have HN : Hid (a ≠ b) := Lib.hid fun e => hz (by have h1 := HX.out; rw [e, HY.out] at h1; exact (Option.some.inj h1).symm)
          have ht := sq_ne hz
          clear hz
          go_wp2_with fail
          go_quiet (fail)
          go_wp2_with fail
          go_ret
          exact ⟨by rw [dc_false HN.out]; rfl, by first | exact hbr | exact hbr.drew | exact below_drewN hbr _⟩
      · have hE : a = b := dc_take HNE.out hp (by omega)
        have HE := Lib.hid hE
        obtain rfl : k = a.length := by omega
        clear hE hp hA hA' e1
        go_wp2_with fail
        go_ret
        exact ⟨by rw [dc_true HE.out]; rfl, hbr⟩
  · have e1 : ((a.length : Int) != (b.length : Int)) = true := by simp; omega
    have HN : Hid (a ≠ b) := Lib.hid fun e => hne (by rw [e])
    clear hne hA hA'
    go_enter Try.func120, Try.ntmps120
    go_wp2_with fail
    go_ret
    exact ⟨by rw [dc_false HN.out]; rfl, Below.refl _ _⟩
set_option maxRecDepth 100000 in
theorem same_any (W H W' H' : Int) (A A' : Option Addr) (n n' c c' : Nat) (a b : List Sq) (w : World) (hl : a.length = n) (hl' : b.length = n') (hn : n ≤ 1048576) (hn' : n' ≤ 1048576) (hA : SqsAt w w.heap.size A a) (hA' : SqsAt w w.heap.size A' b) :
    Calls Try.prog 75 #[.agg #[.int .i64 W, .int .i64 H, .slice A n c], .agg #[.int .i64 W', .int .i64 H', .slice A' n' c']] w fun e w' => e = .returned (.bool (dc (a = b))) ∧ Below w.heap.size w w' := by
  have hB : Below w.heap.size w ((w.alloc (.cells #[.int .i64 W, .int .i64 H, .slice A n c] 28)).alloc (.cells #[.int .i64 W', .int .i64 H', .slice A' n' c'] 28)) := ((Below.refl _ _).alloc (Nat.le_refl _) _).alloc (by simp) _
  go_enter Try.func75, Try.ntmps75
  go_wp2_with fail
  refine (equalSq_any A A' n n' c c' a b _ hl hl' hn hn' ((hA.below hB).mono hB.size) ((hA'.below hB).mono hB.size)).mono ?_
  rintro e w2 ⟨rfl, hb2⟩
  have hBE := hB.trans (hb2.mono hB.size)
  clear hb2 hB
  go_wp2_with fail
  go_ret
  exact ⟨rfl, hBE⟩
end Go.Proofs.Ytdpbjmdgjhleeaa
