/- The longest line: of the program. -/
import Derived.Test.YtgghkimjminbaaaLongG
import Derived.Test.YtgghkimjminbaaaTurnI
import Derived.Test.YtgghkimjminbaaaBeside
set_option linter.all false
namespace Go.Proofs.Ytgghkimjminbaaa
open Go.RowKit

theorem eqCell (a b c d : Int) (w : World) : (Op.equalIn 10000 77 (.agg #[.int .i64 a, .int .i64 b]) (.agg #[.int .i64 c, .int .i64 d])).run Try.prog w = .ok (a == c && b == d) w := by
  have u3 := Try.underlying3
  have a3 : ∀ w, (isAgg 3).run Try.prog w = .ok false w := fun _ => by kernel_rfl
  have z3 : ∀ w, (Go.sizeOf 3).run Try.prog w = .ok 1 w := fun _ => by kernel_rfl
  rw [show (10000 : Nat) = 9999 + 1 from rfl, Op.equalIn]
  simp only [Sem.run_bind, run_underlying Try.underlying77, Result.andThen_ok]
  simp only [Std.Legacy.Range.forIn_eq_forIn_range', Std.Legacy.Range.size, Nat.sub_zero, Nat.add_sub_cancel, Nat.div_one, List.range'_succ, List.range'_zero, List.forIn_cons, List.forIn_nil]
  go_simp
  by_cases h1 : a = c <;> by_cases h2 : b = d <;> simp [h1, h2]

set_option maxRecDepth 100000 in
set_option maxHeartbeats 4000000 in
theorem endOf_any (W H : Int) (A : Option Addr) (n c : Nat) (L : List Sq) (y : Int) (hl : L.length = n) (hc : n ≤ c) (hG : Good W H L) :
    ∀ (m : Nat) (p : Int) (w : World), W - p < m → 0 ≤ p → p ≤ W → SqsAt w w.heap.size A L →
    Calls Try.prog 92 #[.agg #[.int .i64 W, .int .i64 H, .slice A n c], .agg #[.int .i64 p, .int .i64 y]] w fun e w' => (∃ q, e = .returned (.int .i64 q) ∧ 0 ≤ q ∧ q ≤ W ∧ M.Ends L y p q) ∧ Below w.heap.size w w' := by
  subst hl
  have hF := good_fill hG
  have hW5 := hF.w
  have h30 : L.length ≤ 30 := hG.2.2.1.2
  intro m
  induction m with
  | zero =>
    intro p w hm hp hpW hL
    omega
  | succ m ih =>
    intro p w hm hp hpW hL
    obtain ⟨W1, hW1⟩ : ∃ W1, W1 = (w.alloc (.cells #[.int .i64 W, .int .i64 H, .slice A L.length c] 24)).alloc (.cells #[.int .i64 p, .int .i64 y] 77) := ⟨_, rfl⟩
    have hB1 : Below w.heap.size w W1 := by rw [hW1]; exact ((Below.refl _ _).alloc (Nat.le_refl _) _).alloc (by simp) _
    have hz1 : W1.heap.size = w.heap.size + 2 := by rw [hW1]; simp
    have b0 : W1.cell? ⟨w.heap.size, 0, none⟩ = some (.int .i64 W) := by rw [hW1]; simp [go_sem]
    have b1 : W1.cell? ⟨w.heap.size, 1, none⟩ = some (.int .i64 H) := by rw [hW1]; simp [go_sem]
    have b2 : W1.cell? ⟨w.heap.size, 2, none⟩ = some (.slice A L.length c) := by rw [hW1]; simp [go_sem]
    have p0 : W1.cell? ⟨w.heap.size + 1, 0, none⟩ = some (.int .i64 p) := by rw [hW1]; simp [go_sem]
    have p1 : W1.cell? ⟨w.heap.size + 1, 1, none⟩ = some (.int .i64 y) := by rw [hW1]; simp [go_sem]
    have i0 : ∀ (a0 a1 : Int) (w : World), (Instr.index 77 (.agg #[.int .i64 a0, .int .i64 a1]) (.int .i64 0)).run Try.prog w = .ok (.int .i64 a0) w := fun _ _ _ => by kernel_rfl
    go_enter Try.func92, Try.ntmps92
    go_wp2_with fail
    rw [← hW1]
    clear hW1
    go_wp2_with fail
    go_loopw [10] (fun i wr => ∃ k : Nat, k ≤ L.length ∧ i = .int .i64 k ∧ (∀ s ∈ L.take k, ¬ (s.x = p ∧ s.y + s.d = y)) ∧ Below (w.heap.size + 2) W1 wr ∧ w.heap.size + 2 ≤ wr.heap.size) (fun i _ => L.length - (intOf i).toNat)
    case atStart => exact ⟨0, Nat.zero_le _, rfl, fun s hs => by simp at hs, Below.refl _ _, Nat.le_of_eq hz1.symm⟩
    case round =>
      obtain ⟨k, hk, rfl, hno, hbr, hzr⟩ := hrel
      have z0 := (hbr.cell (p := ⟨w.heap.size, 0, none⟩) (by simp)).trans b0
      have z1 := (hbr.cell (p := ⟨w.heap.size, 1, none⟩) (by simp)).trans b1
      have z2 := (hbr.cell (p := ⟨w.heap.size, 2, none⟩) (by simp)).trans b2
      have q0 := (hbr.cell (p := ⟨w.heap.size + 1, 0, none⟩) (by simp)).trans p0
      have q1 := (hbr.cell (p := ⟨w.heap.size + 1, 1, none⟩) (by simp)).trans p1
      have hBr := hB1.trans (hbr.mono (by omega))
      have HN := Lib.hid hno
      clear hno b0 b1 b2 p0 p1
      by_cases hlt : k < L.length
      · obtain ⟨s, hs⟩ : ∃ s, L[k]? = some s := ⟨_, List.getElem?_eq_getElem hlt⟩
        obtain ⟨b, off, rfl, hb, c0, c1, c2⟩ := (hL.below hBr) k s hs
        have hin := hF.within s (List.mem_of_getElem? hs)
        unfold Within at hin
        have hzr' : w.heap.size + 1 < wr.heap.size := by omega
        have hzr0 : w.heap.size < wr.heap.size := by omega
        have k0 : (0 : Int) ≤ (k : Int) := by omega
        have k1 : (k : Int) < (L.length : Int) := by omega
        have heq := eqCell
        have HS := Lib.hid hs
        have HL := Lib.hid hL
        have hF2 := hF.h
        clear hs hL
        have hyes : (p == s.x && y == s.y + s.d) = true ∨ (p == s.x && y == s.y + s.d) = false := by cases (p == s.x && y == s.y + s.d) <;> simp
        rcases hyes with ht | ht
        · have hh : s.x = p ∧ s.y + s.d = y := by
            simp only [Bool.and_eq_true, beq_iff_eq] at ht
            exact ⟨ht.1.symm, ht.2.symm⟩
          have HH := Lib.hid hh
          clear hh
          go_wp2_with fail
          have hBa := hBr.alloc hBr.size (.cells #[.int .i64 s.x, .int .i64 s.y, .int .i64 s.d] 39)
          have hxp := HH.out.1
          refine (ih (s.x + s.d) _ (by omega) (by omega) (by omega) ((HL.out.below hBa).mono hBa.size)).mono ?_
          rintro e w2 ⟨⟨q, rfl, hq0, hqW, hE⟩, hb2⟩
          have hB2 := hBa.trans (hb2.mono hBa.size)
          have HE := Lib.hid hE
          clear hb2 hBa hE hxp
          go_wp2_with fail
          go_ret
          exact ⟨⟨q, rfl, hq0, hqW, HH.out.1 ▸ M.Ends.step (List.mem_of_getElem? HS.out) HH.out.2 HE.out⟩, hB2⟩
        · have hh : ¬ (s.x = p ∧ s.y + s.d = y) := by
            intro h
            simp [h.1, h.2] at ht
          have HH := Lib.hid hh
          clear hh
          go_wp2_with fail
          go_roundw
          case rel =>
            refine ⟨k + 1, by omega, by go_num, fun q hq => ?_, hbr.alloc hzr _, by simp; omega⟩
            rw [List.take_add_one, HS.out] at hq
            rcases List.mem_append.1 hq with hq | hq
            · exact HN.out q hq
            · simp at hq; subst hq; exact HH.out
          case measure => simp [intOf]; omega
      · obtain rfl : k = L.length := by omega
        go_wp2_with fail
        go_ret
        exact ⟨⟨p, rfl, hp, hpW, .stop (fun s hs => HN.out s (by rwa [List.take_length]))⟩, hBr⟩
end Go.Proofs.Ytgghkimjminbaaa
