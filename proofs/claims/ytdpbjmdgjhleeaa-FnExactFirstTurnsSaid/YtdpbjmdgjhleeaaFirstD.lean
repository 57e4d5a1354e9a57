/- Cuts compared and copied by the model; the memory of the search for the first turn. -/
import Derived.Test.YtdpbjmdgjhleeaaFirstC
import Derived.Test.YtdpbjmdgjhleeaaOrd
import Derived.Test.YtdpbjmdgjhleeaaSuM
set_option linter.all false
namespace Go.Proofs.Ytdpbjmdgjhleeaa
open Go.RowKit

theorem eqSqF (a b c a' b' c' : Int) (w : World) : (Op.equalIn 10000 85 (.agg #[.int .i64 a, .int .i64 b, .int .i64 c]) (.agg #[.int .i64 a', .int .i64 b', .int .i64 c'])).run Try.prog w = .ok (a == a' && b == b' && c == c') w := by
  have u3 := Try.underlying3
  have a3 : ∀ w, (isAgg 3).run Try.prog w = .ok false w := fun _ => by kernel_rfl
  have z3 : ∀ w, (Go.sizeOf 3).run Try.prog w = .ok 1 w := fun _ => by kernel_rfl
  have hS : Try.prog.underlying 85 = some (.struct (Try.prog.fieldsOf 85)) := by kernel_rfl
  have hp : Try.prog.stoodInHeld 85 = false := by kernel_rfl
  rw [show (10000 : Nat) = 9999 + 1 from rfl, run_equalIn_agg w 9999 85 _ _ hS hp]
  simp only [Program.fieldsOf, Try.underlying85]
  go_simp
  by_cases h1 : a = a' <;> by_cases h2 : b = b' <;> by_cases h3 : c = c' <;> simp [h1, h2, h3]
theorem ltL_three (s q : Sq) : ltL [s.x, s.y, s.d] [q.x, q.y, q.d] = true ↔ F.ltS s q := by
  simp [ltL, F.ltS]
theorem sq_ne {s q : Sq} (h : s ≠ q) : (s.x == q.x && s.y == q.y && s.d == q.d) = false := by
  rw [← Bool.not_eq_true]
  intro k
  simp only [Bool.and_eq_true, beq_iff_eq] at k
  apply h
  obtain ⟨x, y, d⟩ := s
  obtain ⟨x', y', d'⟩ := q
  simp only at k
  obtain ⟨⟨rfl, rfl⟩, rfl⟩ := k
  rfl

set_option maxRecDepth 100000 in
set_option maxHeartbeats 8000000 in
theorem cuFirst_any (W H W' H' : Int) (A A' : Option Addr) (n n' c c' : Nat) (a b : List Sq) (w : World) (hl : a.length = n) (hl' : b.length = n') (hn : n ≤ 1048576) (hn' : n' ≤ 1048576) (hA : SqsAt w w.heap.size A a) (hA' : SqsAt w w.heap.size A' b) :
    Calls Try.prog 68 #[.agg #[.int .i64 W, .int .i64 H, .slice A n c], .agg #[.int .i64 W', .int .i64 H', .slice A' n' c']] w (RetB w (F.ltQ a b)) := by
  subst hl
  subst hl'
  obtain ⟨W1, hW1⟩ : ∃ W1, W1 = (w.alloc (.cells #[.int .i64 W, .int .i64 H, .slice A a.length c] 28)).alloc (.cells #[.int .i64 W', .int .i64 H', .slice A' b.length c'] 28) := ⟨_, rfl⟩
  have hB1 : Below w.heap.size w W1 := by rw [hW1]; exact ((Below.refl _ _).alloc (Nat.le_refl _) _).alloc (by simp) _
  have hz1 : W1.heap.size = w.heap.size + 2 := by rw [hW1]; simp
  have b2 : W1.cell? ⟨w.heap.size, 2, none⟩ = some (.slice A a.length c) := by rw [hW1]; simp [go_sem]
  have p2 : W1.cell? ⟨w.heap.size + 1, 2, none⟩ = some (.slice A' b.length c') := by rw [hW1]; simp [go_sem]
  go_enter Try.func68, Try.ntmps68
  go_wp2_with fail
  rw [← hW1]
  clear hW1
  go_wp2_with fail
  go_loopw [11] (fun i wr => ∃ k : Nat, k ≤ a.length ∧ k ≤ b.length ∧ i = .int .i64 k ∧ a.take k = b.take k ∧ Below (w.heap.size + 2) W1 wr ∧ w.heap.size + 2 ≤ wr.heap.size) (fun i _ => a.length - (intOf i).toNat)
  case atStart => exact ⟨0, Nat.zero_le _, Nat.zero_le _, rfl, rfl, Below.refl _ _, Nat.le_of_eq hz1.symm⟩
  case round =>
    obtain ⟨k, hka, hkb, rfl, hp, hbr, hzr⟩ := hrel
    have hBr := hB1.trans (hbr.mono (by omega))
    have z2 := (hbr.cell (p := ⟨w.heap.size, 2, none⟩) (by simp)).trans b2
    have q2 := (hbr.cell (p := ⟨w.heap.size + 1, 2, none⟩) (by simp)).trans p2
    have hzr0 : w.heap.size < wr.heap.size := by omega
    have hzr1 : w.heap.size + 1 < wr.heap.size := by omega
    clear b2 p2
    by_cases h1 : k < a.length
    · obtain ⟨s, hs⟩ : ∃ s, a[k]? = some s := ⟨_, List.getElem?_eq_getElem h1⟩
      obtain ⟨b1, o1, rfl, hb1, c0, c1, c2⟩ := (hA.below hBr) k s hs
      have k0 : (0 : Int) ≤ (k : Int) := by omega
      have k1 : (k : Int) < (a.length : Int) := by omega
      have hb1' : b1 < wr.heap.size := by omega
      by_cases h2 : k < b.length
      · obtain ⟨q, hq⟩ : ∃ q, b[k]? = some q := ⟨_, List.getElem?_eq_getElem h2⟩
        obtain ⟨b2, o2, rfl, hb2, d0, d1, d2⟩ := (hA'.below hBr) k q hq
        have k2 : (k : Int) < (b.length : Int) := by omega
        have hb2' : b2 < wr.heap.size := by omega
        have hlt := fun hne => F.ltQ_at hp hs hq hne
        have HX := Lib.hid hs
        have HY := Lib.hid hq
        have HP := Lib.hid hp
        have HLT := Lib.hid hlt
        have heq := eqSqF
        clear hs hq hp hlt hA hA'
        by_cases hz : s = q
        · have HE := Lib.hid hz
          have ht : (s.x == q.x && s.y == q.y && s.d == q.d) = true := by rw [hz]; simp
          have hbE := (hbr.alloc hzr (.cells #[.int .i64 s.x, .int .i64 s.y, .int .i64 s.d] 85)).alloc (by simp; omega) (.cells #[.int .i64 q.x, .int .i64 q.y, .int .i64 q.d] 85)
          clear hz
          go_wp2_with fail
          go_roundw
          case rel => exact ⟨k + 1, by omega, by omega, by go_num, takeS_step HP.out HX.out (by rw [HE.out]; exact HY.out), hbE, by simp; omega⟩
          case measure => simp [intOf]; omega
        · have HN := Lib.hid hz
          have ht := sq_ne hz
          clear hz
          go_wp2_with fail
          obtain ⟨W5, hW5⟩ : ∃ W5, W5 = (wr.alloc (.cells #[.int .i64 s.x, .int .i64 s.y, .int .i64 s.d] 85)).alloc (.cells #[.int .i64 q.x, .int .i64 q.y, .int .i64 q.d] 85) := ⟨_, rfl⟩
          have hb5 : Below wr.heap.size wr W5 := by rw [hW5]; exact ((Below.refl _ _).alloc (Nat.le_refl _) _).alloc (by simp) _
          have hB5 := hBr.trans (hb5.mono (by omega))
          have hz5 : W5.heap.size = wr.heap.size + 1 + 1 := by rw [hW5]; simp
          rw [← hW5]
          clear hW5 c0 c1 c2 d0 d1 d2 z2 q2 hbr heq hb5
          obtain ⟨W6, hW6⟩ : ∃ W6, W6 = (W5.alloc (.cells #[.int .i64 s.x, .int .i64 s.y, .int .i64 s.d] 3)).alloc (.cells #[.int .i64 q.x, .int .i64 q.y, .int .i64 q.d] 3) := ⟨_, rfl⟩
          have O1 : W6.ownsRow W5.heap.size 3 1 (.slice (some ⟨W5.heap.size, 0, none⟩) 3 3) 3 (ints [s.x, s.y, s.d]) := by
            rw [hW6]
            exact (World.ownsRow_lit (e := 3) W5 #[.int .i64 s.x, .int .i64 s.y, .int .i64 s.d] 3 (size := 1) (Nat.le_refl _) (by unfold maxLen; omega) rfl).alloc _
          have O2 : W6.ownsRow (W5.heap.size + 1) 3 1 (.slice (some ⟨W5.heap.size + 1, 0, none⟩) 3 3) 3 (ints [q.x, q.y, q.d]) := by
            have h := World.ownsRow_lit (e := 3) (W5.alloc (.cells #[.int .i64 s.x, .int .i64 s.y, .int .i64 s.d] 3)) #[.int .i64 q.x, .int .i64 q.y, .int .i64 q.d] 3 (size := 1) (Nat.le_refl _) (by unfold maxLen; omega) rfl
            rw [← hW6, World.size_alloc] at h
            exact h
          have hb6 : Below W5.heap.size W5 W6 := by rw [hW6]; exact ((Below.refl _ _).alloc (Nat.le_refl _) _).alloc (by simp) _
          have hB6 := hB5.trans (hb6.mono hB5.size)
          rw [← hW6]
          clear hW6
          have CB := cuBefore_any (some ⟨W5.heap.size, 0, none⟩) (some ⟨W5.heap.size + 1, 0, none⟩) 3 3 3 3 [s.x, s.y, s.d] [q.x, q.y, q.d] W6 rfl rfl (by decide) (by decide) (ints_of_own O1) (ints_of_own O2)
          rw [hz5] at CB
          clear O1 O2
          (with_reducible refine CB.mono ?_)
          rintro e w7 ⟨rfl, hb7⟩
          have hB7 := hB6.trans (hb7.mono hB6.size)
          clear hb7 hb6 hB6 hB5 CB
          have h3 := ltL_three s q
          obtain ⟨r, hr⟩ : ∃ r, ltL [s.x, s.y, s.d] [q.x, q.y, q.d] = r := ⟨_, rfl⟩
          rw [hr] at h3 ⊢
          have H3 := Lib.hid h3
          clear h3 hr
          go_wp2_with fail
          go_ret
          exact RetB.mk (H3.out.trans (HLT.out HN.out).symm) hB7
      · obtain rfl : k = b.length := by omega
        have hno : ¬ F.ltQ a b := by
          rw [F.ltQ_drop hp hka (Nat.le_refl _), List.drop_length]
          cases e : a.drop b.length with
          | nil => exact id
          | cons _ _ => exact id
        have HN := Lib.hid hno
        have hBE := hBr.alloc hBr.size (.cells #[.int .i64 s.x, .int .i64 s.y, .int .i64 s.d] 85)
        clear hs hp hA hA' hno
        go_wp2_with fail
        go_ret
        exact RetB.mk (by simp [HN.out]) hBE
    · obtain rfl : k = a.length := by omega
      have hlt := F.ltQ_end hp hkb
      have HLT := Lib.hid hlt
      clear hp hlt hA hA'
      by_cases h2 : a.length < b.length
      · go_wp2_with fail
        go_ret
        exact RetB.mk (by simp [HLT.out, h2]) hBr
      · go_wp2_with fail
        go_ret
        exact RetB.mk (by simp [HLT.out, h2]) hBr

end Go.Proofs.Ytdpbjmdgjhleeaa
