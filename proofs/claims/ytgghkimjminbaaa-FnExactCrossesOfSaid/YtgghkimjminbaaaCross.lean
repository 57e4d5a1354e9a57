/- Contracts of crosses: corners of squares. -/
import Derived.Test.YtgghkimjminbaaaSSL
set_option linter.all false
namespace Go.Proofs.Ytgghkimjminbaaa
open Go.RowKit

/-- A point is a corner of a square. -/
def Cor (x y : Int) (s : Sq) : Bool := (x == s.x || x == s.x + s.d) && (y == s.y || y == s.y + s.d)
theorem eqs (a b c : Int) : ((a == b) = true) ∨ ((a == b) = false ∧ (a == c) = true) ∨ ((a == b) = false ∧ (a == c) = false) := by
  cases (a == b) <;> cases (a == c) <;> simp
def corN (L : List Sq) (x y : Int) (k : Nat) : Nat := ((L.take k).filter (Cor x y)).length
theorem corN_succ (L : List Sq) (x y : Int) (k : Nat) (s : Sq) (h : L[k]? = some s) : corN L x y (k + 1) = corN L x y k + (if Cor x y s then 1 else 0) := by
  unfold corN
  rw [List.take_add_one, h, List.filter_append, List.length_append]
  congr 1
  by_cases hq : Cor x y s <;> simp [hq]
theorem corN_le (L : List Sq) (x y : Int) (k : Nat) : corN L x y k ≤ k := by
  unfold corN
  exact Nat.le_trans (List.length_filter_le _ _) (List.length_take_le _ _)

set_option maxRecDepth 100000 in
set_option maxHeartbeats 4000000 in
theorem cornersOf_any (x y d : Int) (hx : 0 ≤ x) (hx1 : x ≤ 1000000) (hy : 0 ≤ y) (hy1 : y ≤ 1000000) (hd : 0 ≤ d) (hd1 : d ≤ 1000000) (w : World) :
    Calls Try.prog 91 #[.agg #[.int .i64 x, .int .i64 y, .int .i64 d]] w fun e w' =>
      e = .returned (.agg #[.int .i64 x, .int .i64 y, .int .i64 (x + d), .int .i64 y, .int .i64 x, .int .i64 (y + d), .int .i64 (x + d), .int .i64 (y + d)]) ∧ Below w.heap.size w w' := by
  go_enter Try.func91, Try.ntmps91
  go_wp2_with fail
  have hbq : ∀ nq, Below w.heap.size w (((w.alloc (.cells #[.int .i64 x, .int .i64 y, .int .i64 d] 39)).alloc (.cells #[.int .i64 0, .int .i64 0, .int .i64 0, .int .i64 0, .int .i64 0, .int .i64 0, .int .i64 0, .int .i64 0] 95)).drewN nq) := fun nq => below_drewN (((Below.refl _ _).alloc (Nat.le_refl _) _).alloc (by simp) _) nq
  go_quiet (fail)
  obtain ⟨wq, hwq⟩ : ∃ wq, wq = ((w.alloc (.cells #[.int .i64 x, .int .i64 y, .int .i64 d] 39)).alloc (.cells #[.int .i64 0, .int .i64 0, .int .i64 0, .int .i64 0, .int .i64 0, .int .i64 0, .int .i64 0, .int .i64 0] 95)).drewN nq := ⟨_, rfl⟩
  have hB := hbq nq
  rw [← hwq] at hB ⊢
  have s0 : wq.cell? ⟨w.heap.size, 0, none⟩ = some (.int .i64 x) := by rw [hwq]; simp [go_sem]
  have s1 : wq.cell? ⟨w.heap.size, 1, none⟩ = some (.int .i64 y) := by rw [hwq]; simp [go_sem]
  have q0 : wq.cell? ⟨w.heap.size + 1, 0, none⟩ = some (.int .i64 0) := by rw [hwq]; simp [go_sem]
  have f0 : wq.frozen? ⟨w.heap.size + 1, 0, none⟩ = false := by rw [hwq]; simp [go_sem]
  have q1 : wq.cell? ⟨w.heap.size + 1, 1, none⟩ = some (.int .i64 0) := by rw [hwq]; simp [go_sem]
  have f1 : wq.frozen? ⟨w.heap.size + 1, 1, none⟩ = false := by rw [hwq]; simp [go_sem]
  have q2 : wq.cell? ⟨w.heap.size + 1, 2, none⟩ = some (.int .i64 0) := by rw [hwq]; simp [go_sem]
  have f2 : wq.frozen? ⟨w.heap.size + 1, 2, none⟩ = false := by rw [hwq]; simp [go_sem]
  have q3 : wq.cell? ⟨w.heap.size + 1, 3, none⟩ = some (.int .i64 0) := by rw [hwq]; simp [go_sem]
  have f3 : wq.frozen? ⟨w.heap.size + 1, 3, none⟩ = false := by rw [hwq]; simp [go_sem]
  have q4 : wq.cell? ⟨w.heap.size + 1, 4, none⟩ = some (.int .i64 0) := by rw [hwq]; simp [go_sem]
  have f4 : wq.frozen? ⟨w.heap.size + 1, 4, none⟩ = false := by rw [hwq]; simp [go_sem]
  have q5 : wq.cell? ⟨w.heap.size + 1, 5, none⟩ = some (.int .i64 0) := by rw [hwq]; simp [go_sem]
  have f5 : wq.frozen? ⟨w.heap.size + 1, 5, none⟩ = false := by rw [hwq]; simp [go_sem]
  have q6 : wq.cell? ⟨w.heap.size + 1, 6, none⟩ = some (.int .i64 0) := by rw [hwq]; simp [go_sem]
  have f6 : wq.frozen? ⟨w.heap.size + 1, 6, none⟩ = false := by rw [hwq]; simp [go_sem]
  have q7 : wq.cell? ⟨w.heap.size + 1, 7, none⟩ = some (.int .i64 0) := by rw [hwq]; simp [go_sem]
  have f7 : wq.frozen? ⟨w.heap.size + 1, 7, none⟩ = false := by rw [hwq]; simp [go_sem]
  clear hbq hwq
  go_wp2_with fail
  clear s0 s1
  obtain ⟨wf, hwf⟩ : ∃ wf, wf = ((((((((wq.setCell ⟨w.heap.size + 1, 0, none⟩ (.int .i64 x)).setCell ⟨w.heap.size + 1, 1, none⟩ (.int .i64 y)).setCell ⟨w.heap.size + 1, 2, none⟩ (.int .i64 (x + d))).setCell ⟨w.heap.size + 1, 3, none⟩ (.int .i64 y)).setCell ⟨w.heap.size + 1, 4, none⟩ (.int .i64 x)).setCell ⟨w.heap.size + 1, 5, none⟩ (.int .i64 (y + d))).setCell ⟨w.heap.size + 1, 6, none⟩ (.int .i64 (x + d))).setCell ⟨w.heap.size + 1, 7, none⟩ (.int .i64 (y + d))) := ⟨_, rfl⟩
  have hBf : Below w.heap.size w wf := by rw [hwf]; exact ((((((((hB.setCell (Nat.le_succ _) _).setCell (Nat.le_succ _) _).setCell (Nat.le_succ _) _).setCell (Nat.le_succ _) _).setCell (Nat.le_succ _) _).setCell (Nat.le_succ _) _).setCell (Nat.le_succ _) _).setCell (Nat.le_succ _) _)
  have r0 : wf.cell? ⟨w.heap.size + 1, 0, none⟩ = some (.int .i64 x) := by rw [hwf]; simp [go_sem, q0]
  have r1 : wf.cell? ⟨w.heap.size + 1, 1, none⟩ = some (.int .i64 y) := by rw [hwf]; simp [go_sem, q1]
  have r2 : wf.cell? ⟨w.heap.size + 1, 2, none⟩ = some (.int .i64 (x + d)) := by rw [hwf]; simp [go_sem, q2]
  have r3 : wf.cell? ⟨w.heap.size + 1, 3, none⟩ = some (.int .i64 y) := by rw [hwf]; simp [go_sem, q3]
  have r4 : wf.cell? ⟨w.heap.size + 1, 4, none⟩ = some (.int .i64 x) := by rw [hwf]; simp [go_sem, q4]
  have r5 : wf.cell? ⟨w.heap.size + 1, 5, none⟩ = some (.int .i64 (y + d)) := by rw [hwf]; simp [go_sem, q5]
  have r6 : wf.cell? ⟨w.heap.size + 1, 6, none⟩ = some (.int .i64 (x + d)) := by rw [hwf]; simp [go_sem, q6]
  have r7 : wf.cell? ⟨w.heap.size + 1, 7, none⟩ = some (.int .i64 (y + d)) := by rw [hwf]; simp [go_sem, q7]
  rw [← hwf]
  clear hwf q0 f0 q1 f1 q2 f2 q3 f3 q4 f4 q5 f5 q6 f6 q7 f7
  refine bodyPost_ret (v := .agg #[.int .i64 x, .int .i64 y, .int .i64 (x + d), .int .i64 y, .int .i64 x, .int .i64 (y + d), .int .i64 (x + d), .int .i64 (y + d)]) (by simp [results, Try.results91, go_sem, r0, r1, r2, r3, r4, r5, r6, r7]) rfl ⟨rfl, hBf⟩

set_option maxRecDepth 100000 in
set_option maxHeartbeats 1000000 in
theorem cuCorners_any (W H : Int) (A : Option Addr) (n c : Nat) (L : List Sq) (x y : Int) (w : World) (hl : L.length = n) (hn : n ≤ 30) (hL : SqsAt w w.heap.size A L) (hf : ∀ s ∈ L, Fine s) :
    Calls Try.prog 66 #[.agg #[.int .i64 W, .int .i64 H, .slice A n c], .int .i64 x, .int .i64 y] w fun e w' => e = .returned (.int .i64 (corN L x y L.length : Nat)) ∧ Below w.heap.size w w' := by
  subst hl
  have Z0 : Box w.heap.size w (w.alloc (.cells #[.int .i64 W, .int .i64 H, .slice A L.length c] 24)) W H A c L := Box.start hL
  obtain ⟨W1, hW1⟩ : ∃ W1, W1 = w.alloc (.cells #[.int .i64 W, .int .i64 H, .slice A L.length c] 24) := ⟨_, rfl⟩
  rw [← hW1] at Z0
  obtain ⟨hB1, hs1, b0, b1, b2, hL1⟩ := id Z0
  go_enter Try.func66, Try.ntmps66
  go_wp2_with fail
  rw [← hW1]
  clear hW1
  go_wp2_with fail
  go_loopw [7, 13] (fun v i wr => ∃ k : Nat, k ≤ L.length ∧ i = .int .i64 k ∧ v = .int .i64 (corN L x y k : Nat) ∧ Below w.heap.size w wr) (fun _ i _ => L.length - (intOf i).toNat)
  case atStart => exact ⟨0, Nat.zero_le _, rfl, by simp [corN], hB1⟩
  case round =>
    obtain ⟨k, hk, rfl, rfl, hbr⟩ := hrel
    have hzr := hbr.size
    by_cases hlt : k < L.length
    · obtain ⟨s, hs⟩ : ∃ s, L[k]? = some s := ⟨_, List.getElem?_eq_getElem hlt⟩
      obtain ⟨b, off, rfl, hb, c0, c1, c2⟩ := (hL.below hbr) k s hs
      obtain ⟨f0, f1, f2, f3, f4, f5⟩ := hf s (List.mem_of_getElem? hs)
      have hsuc := corN_succ L x y k s hs
      have hle := corN_le L x y k
      obtain ⟨N0, hN0⟩ : ∃ z, corN L x y k = z := ⟨_, rfl⟩
      rw [hN0] at hsuc hle ⊢
      have hfin : ∀ o : Obj, Below w.heap.size w (wr.alloc o) := fun o => hbr.alloc hzr o
      clear hs hL hL1 Z0 b0 b1 b2 hN0 hf
      have HS := Lib.hid hsuc
      clear hsuc
      rcases eqs x s.x (s.x + s.d) with p1 | ⟨p1, p2⟩ | ⟨p1, p2⟩
      · rcases eqs y s.y (s.y + s.d) with q1 | ⟨q1, q2⟩ | ⟨q1, q2⟩
        · go_wp2_with fail
          go_roundw
          case rel => exact ⟨k + 1, by omega, by go_num, by rw [HS.out]; simp [Cor, p1, q1], hfin _⟩
          case measure => simp [intOf]; omega
        · go_wp2_with fail
          go_roundw
          case rel => exact ⟨k + 1, by omega, by go_num, by rw [HS.out]; simp [Cor, p1, q1, q2], hfin _⟩
          case measure => simp [intOf]; omega
        · go_wp2_with fail
          go_roundw
          case rel => exact ⟨k + 1, by omega, by go_num, by rw [HS.out]; simp [Cor, p1, q1, q2], hfin _⟩
          case measure => simp [intOf]; omega
      · rcases eqs y s.y (s.y + s.d) with q1 | ⟨q1, q2⟩ | ⟨q1, q2⟩
        · go_wp2_with fail
          go_roundw
          case rel => exact ⟨k + 1, by omega, by go_num, by rw [HS.out]; simp [Cor, p1, p2, q1], hfin _⟩
          case measure => simp [intOf]; omega
        · go_wp2_with fail
          go_roundw
          case rel => exact ⟨k + 1, by omega, by go_num, by rw [HS.out]; simp [Cor, p1, p2, q1, q2], hfin _⟩
          case measure => simp [intOf]; omega
        · go_wp2_with fail
          go_roundw
          case rel => exact ⟨k + 1, by omega, by go_num, by rw [HS.out]; simp [Cor, p1, p2, q1, q2], hfin _⟩
          case measure => simp [intOf]; omega
      · go_wp2_with fail
        go_roundw
        case rel => exact ⟨k + 1, by omega, by go_num, by rw [HS.out]; simp [Cor, p1, p2], hfin _⟩
        case measure => simp [intOf]; omega
    · obtain rfl : k = L.length := by omega
      go_wp2_with fail
      go_ret
      exact ⟨rfl, hbr⟩
end Go.Proofs.Ytgghkimjminbaaa
