/- Contracts of CrossesOf, the program's and the model's. -/
import Derived.Test.YtgghkimjminbaaaCross
set_option linter.all false
namespace Go.Proofs.Ytgghkimjminbaaa
open Go.RowKit

/-- How many of the first corners of a square are the point. -/
def corK (x y : Int) (s : Sq) : Nat → Nat
  | 0 => 0
  | 1 => if s.x == x && s.y == y then 1 else 0
  | 2 => (if s.x == x && s.y == y then 1 else 0) + (if s.x + s.d == x && s.y == y then 1 else 0)
  | 3 => (if s.x == x && s.y == y then 1 else 0) + (if s.x + s.d == x && s.y == y then 1 else 0) + (if s.x == x && s.y + s.d == y then 1 else 0)
  | _ => (if s.x == x && s.y == y then 1 else 0) + (if s.x + s.d == x && s.y == y then 1 else 0) + (if s.x == x && s.y + s.d == y then 1 else 0) + (if s.x + s.d == x && s.y + s.d == y then 1 else 0)
theorem corK_four {x y : Int} {s : Sq} (h : 1 ≤ s.d) : corK x y s 4 = if Cor x y s then 1 else 0 := by
  unfold corK Cor
  by_cases a : x = s.x <;> by_cases b : x = s.x + s.d <;> by_cases c : y = s.y <;> by_cases d : y = s.y + s.d <;> (simp only [Bool.and_eq_true, Bool.or_eq_true, beq_iff_eq]) <;> (repeat' split) <;> omega
theorem corK_le {x y : Int} {s : Sq} (j : Nat) : corK x y s j ≤ 4 := by
  unfold corK
  (repeat' split) <;> omega
theorem corner_step {x y : Int} {s : Sq} (j : Nat) (h : j < 4) : corK x y s (j + 1) = corK x y s j + (match j with
  | 0 => if s.x == x && s.y == y then 1 else 0
  | 1 => if s.x + s.d == x && s.y == y then 1 else 0
  | 2 => if s.x == x && s.y + s.d == y then 1 else 0
  | _ => if s.x + s.d == x && s.y + s.d == y then 1 else 0) := by
  match j, h with
  | 0, _ => simp [corK]
  | 1, _ => rfl
  | 2, _ => rfl
  | 3, _ => rfl

theorem eqCell (a b c d : Int) (w : World) : (Op.equalIn 10000 77 (.agg #[.int .i64 a, .int .i64 b]) (.agg #[.int .i64 c, .int .i64 d])).run Try.prog w = .ok (a == c && b == d) w := by
  have u3 := Try.underlying3
  have a3 : ∀ w, (isAgg 3).run Try.prog w = .ok false w := fun _ => by kernel_rfl
  have z3 : ∀ w, (Go.sizeOf 3).run Try.prog w = .ok 1 w := fun _ => by kernel_rfl
  rw [show (10000 : Nat) = 9999 + 1 from rfl, Op.equalIn]
  simp only [Sem.run_bind, run_underlying Try.underlying77, Result.andThen_ok]
  simp only [Std.Legacy.Range.forIn_eq_forIn_range', Std.Legacy.Range.size, Nat.sub_zero, Nat.add_sub_cancel, Nat.div_one, List.range'_succ, List.range'_zero, List.forIn_cons, List.forIn_nil]
  go_simp
  by_cases h1 : a = c <;> by_cases h2 : b = d <;> simp [h1, h2]

set_option maxRecDepth 100000 in
set_option maxHeartbeats 8000000 in
theorem isCross_any (W H : Int) (A : Option Addr) (n c : Nat) (L : List Sq) (x y : Int) (w : World) (hl : L.length = n) (hn : n ≤ 30) (hL : SqsAt w w.heap.size A L) (hf : ∀ s ∈ L, Fine s) :
    Calls Try.prog 65 #[.agg #[.int .i64 W, .int .i64 H, .slice A n c], .agg #[.int .i64 x, .int .i64 y]] w (RetB w (corN L x y L.length = 4)) := by
  subst hl
  obtain ⟨W1, hW1⟩ : ∃ W1, W1 = (w.alloc (.cells #[.int .i64 W, .int .i64 H, .slice A L.length c] 24)).alloc (.cells #[.int .i64 x, .int .i64 y] 77) := ⟨_, rfl⟩
  have hB1 : Below w.heap.size w W1 := by rw [hW1]; exact ((Below.refl _ _).alloc (Nat.le_refl _) _).alloc (by simp) _
  have hz1 : W1.heap.size = w.heap.size + 2 := by rw [hW1]; simp
  have b2 : W1.cell? ⟨w.heap.size, 2, none⟩ = some (.slice A L.length c) := by rw [hW1]; simp [go_sem]
  have p0 : W1.cell? ⟨w.heap.size + 1, 0, none⟩ = some (.int .i64 x) := by rw [hW1]; simp [go_sem]
  have p1 : W1.cell? ⟨w.heap.size + 1, 1, none⟩ = some (.int .i64 y) := by rw [hW1]; simp [go_sem]
  go_enter Try.func65, Try.ntmps65
  go_wp2_with fail
  rw [← hW1]
  clear hW1
  go_wp2_with fail
  go_loopw [5, 13] (fun v i wr => ∃ k : Nat, k ≤ L.length ∧ i = .int .i64 k ∧ v = .int .i64 (corN L x y k : Nat) ∧ Below (w.heap.size + 2) W1 wr ∧ w.heap.size + 2 ≤ wr.heap.size) (fun _ i _ => L.length - (intOf i).toNat)
  case atStart => exact ⟨0, Nat.zero_le _, rfl, by simp [corN], Below.refl _ _, Nat.le_of_eq hz1.symm⟩
  case round =>
    obtain ⟨k, hk, rfl, rfl, hbr, hzr⟩ := hrel
    by_cases hlt : k < L.length
    · obtain ⟨s, hs⟩ : ∃ s, L[k]? = some s := ⟨_, List.getElem?_eq_getElem hlt⟩
      obtain ⟨b, off, rfl, hb, c0, c1, c2⟩ := (hL.below (hB1.trans (hbr.mono (by omega)))) k s hs
      obtain ⟨f0, f1, f2, f3, f4, f5⟩ := hf s (List.mem_of_getElem? hs)
      have hsuc := corN_succ L x y k s hs
      have hle := corN_le L x y k
      obtain ⟨N0, hN0⟩ : ∃ z, corN L x y k = z := ⟨_, rfl⟩
      rw [hN0] at hsuc hle ⊢
      rw [← corK_four f4] at hsuc
      have HS := Lib.hid hsuc
      have k0 : (0 : Int) ≤ (k : Int) := by omega
      have k1 : (k : Int) < (L.length : Int) := by omega
      have hzr' : w.heap.size + 1 < wr.heap.size := by omega
      clear hs hL hN0 hf hsuc b2
      go_wp2_with fail
      refine (cornersOf_any s.x s.y s.d (by omega) (by omega) (by omega) (by omega) (by omega) (by omega) _).mono ?_
      rintro e w2 ⟨rfl, hb2⟩
      have hB2 : Below (w.heap.size + 2) W1 w2 := (hbr.alloc hzr _).trans (hb2.mono (by simp; omega))
      have hz2 := hb2.size
      simp only [World.size_alloc] at hz2
      clear hb2 c0 c1 c2
      go_wp2_with fail
      go_loopw [5, 19] (fun v i wr => ∃ j : Nat, j ≤ 4 ∧ i = .int .i64 j ∧ v = .int .i64 (N0 + corK x y s j : Nat) ∧ Below (w.heap.size + 2) W1 wr ∧ w.heap.size + 2 ≤ wr.heap.size) (fun _ i _ => 4 - (intOf i).toNat)
      case atStart => exact ⟨0, by omega, rfl, by simp [corK], hB2, by omega⟩
      case round =>
        obtain ⟨j, hj, rfl, rfl, hb3, hz3⟩ := hrel
        have q0 := (hb3.cell (p := ⟨w.heap.size + 1, 0, none⟩) (by simp)).trans p0
        have q1 := (hb3.cell (p := ⟨w.heap.size + 1, 1, none⟩) (by simp)).trans p1
        have hz3' : w.heap.size + 1 < wr.heap.size := by omega
        have hfin := fun o : Obj => hb3.alloc hz3 o
        have heq := eqCell
        have i0 : ∀ (a0 a1 a2 a3 a4 a5 a6 a7 : Int) (w : World), (Instr.index 95 (.agg #[.int .i64 a0, .int .i64 a1, .int .i64 a2, .int .i64 a3, .int .i64 a4, .int .i64 a5, .int .i64 a6, .int .i64 a7]) (.int .i64 0)).run Try.prog w = .ok (.agg #[.int .i64 a0, .int .i64 a1]) w := fun _ _ _ _ _ _ _ _ _ => by kernel_rfl
        have i1 : ∀ (a0 a1 a2 a3 a4 a5 a6 a7 : Int) (w : World), (Instr.index 95 (.agg #[.int .i64 a0, .int .i64 a1, .int .i64 a2, .int .i64 a3, .int .i64 a4, .int .i64 a5, .int .i64 a6, .int .i64 a7]) (.int .i64 1)).run Try.prog w = .ok (.agg #[.int .i64 a2, .int .i64 a3]) w := fun _ _ _ _ _ _ _ _ _ => by kernel_rfl
        have i2 : ∀ (a0 a1 a2 a3 a4 a5 a6 a7 : Int) (w : World), (Instr.index 95 (.agg #[.int .i64 a0, .int .i64 a1, .int .i64 a2, .int .i64 a3, .int .i64 a4, .int .i64 a5, .int .i64 a6, .int .i64 a7]) (.int .i64 2)).run Try.prog w = .ok (.agg #[.int .i64 a4, .int .i64 a5]) w := fun _ _ _ _ _ _ _ _ _ => by kernel_rfl
        have i3 : ∀ (a0 a1 a2 a3 a4 a5 a6 a7 : Int) (w : World), (Instr.index 95 (.agg #[.int .i64 a0, .int .i64 a1, .int .i64 a2, .int .i64 a3, .int .i64 a4, .int .i64 a5, .int .i64 a6, .int .i64 a7]) (.int .i64 3)).run Try.prog w = .ok (.agg #[.int .i64 a6, .int .i64 a7]) w := fun _ _ _ _ _ _ _ _ _ => by kernel_rfl
        have hle2 := corK_le (x := x) (y := y) (s := s) j
        by_cases hlt2 : j < 4
        · have hst := corner_step (x := x) (y := y) (s := s) j hlt2
          obtain ⟨K0, hK0⟩ : ∃ z, corK x y s j = z := ⟨_, rfl⟩
          rw [hK0] at hst hle2 ⊢
          have HST := Lib.hid hst
          clear hst hK0
          rcases (by omega : j = 0 ∨ j = 1 ∨ j = 2 ∨ j = 3) with rfl | rfl | rfl | rfl
          · rcases Bool.eq_false_or_eq_true (s.x == x) with a1 | a1 <;> rcases Bool.eq_false_or_eq_true (s.y == y) with a2 | a2
            all_goals
              go_wp2_with fail
              go_roundw
              case rel => exact ⟨0 + 1, by omega, rfl, by rw [HST.out]; simp [a1, a2] <;> omega, hfin _, by simp; omega⟩
              case measure => simp [intOf]
          · rcases Bool.eq_false_or_eq_true (s.x + s.d == x) with a1 | a1 <;> rcases Bool.eq_false_or_eq_true (s.y == y) with a2 | a2
            all_goals
              go_wp2_with fail
              go_roundw
              case rel => exact ⟨1 + 1, by omega, rfl, by rw [HST.out]; simp [a1, a2] <;> omega, hfin _, by simp; omega⟩
              case measure => simp [intOf]
          · rcases Bool.eq_false_or_eq_true (s.x == x) with a1 | a1 <;> rcases Bool.eq_false_or_eq_true (s.y + s.d == y) with a2 | a2
            all_goals
              go_wp2_with fail
              go_roundw
              case rel => exact ⟨2 + 1, by omega, rfl, by rw [HST.out]; simp [a1, a2] <;> omega, hfin _, by simp; omega⟩
              case measure => simp [intOf]
          · rcases Bool.eq_false_or_eq_true (s.x + s.d == x) with a1 | a1 <;> rcases Bool.eq_false_or_eq_true (s.y + s.d == y) with a2 | a2
            all_goals
              go_wp2_with fail
              go_roundw
              case rel => exact ⟨3 + 1, by omega, rfl, by rw [HST.out]; simp [a1, a2] <;> omega, hfin _, by simp; omega⟩
              case measure => simp [intOf]
        · obtain rfl : j = 4 := by omega
          go_wp2_with fail
          go_roundw
          case rel => exact ⟨k + 1, by omega, by go_num, by rw [HS.out], hb3, hz3⟩
          case measure => simp [intOf]; omega
    · obtain rfl : k = L.length := by omega
      have hBF := hB1.trans (hbr.mono (by omega))
      obtain ⟨N0, hN0⟩ : ∃ z, corN L x y L.length = z := ⟨_, rfl⟩
      rw [hN0]
      by_cases h4 : N0 = 4
      · have e1 : ((N0 : Int) == 4) = true := by simp; omega
        have HN := Lib.hid hN0
        clear hN0
        go_wp2_with fail
        go_ret
        exact ⟨ret_dc (by rw [HN.out]; simpa using h4), hBF⟩
      · have e1 : ((N0 : Int) == 4) = false := by simp; omega
        have HN := Lib.hid hN0
        clear hN0
        go_wp2_with fail
        go_ret
        exact ⟨ret_dc (by rw [HN.out]; simpa using h4), hBF⟩

/-- The crosses at which the first squares begin. -/
def crossL (L : List Sq) (k : Nat) : List (List Int) := ((L.take k).filter fun s => corN L s.x s.y L.length == 4).map fun s => [s.x, s.y]
theorem crossL_succ (L : List Sq) (k : Nat) (s : Sq) (h : L[k]? = some s) : crossL L (k + 1) = crossL L k ++ (if corN L s.x s.y L.length == 4 then [[s.x, s.y]] else []) := by
  unfold crossL
  rw [List.take_add_one, h, List.filter_append, List.map_append]
  congr 1
  by_cases hq : (corN L s.x s.y L.length == 4) = true <;> simp [hq]
theorem crossL_len (L : List Sq) (k : Nat) : (crossL L k).length ≤ k := by
  unfold crossL
  rw [List.length_map]
  exact Nat.le_trans (List.length_filter_le _ _) (List.length_take_le _ _)
theorem crossL_tot (L : List Sq) (k : Nat) : tot (crossL L k) ≤ 2 * k := by
  have h : ∀ M : List Sq, tot (M.map fun s => [s.x, s.y]) = 2 * M.length := fun M => by
    induction M with
    | nil => rfl
    | cons s M ih => simp only [List.map_cons, tot, ih, List.length_cons, List.length_nil]; omega
  unfold crossL
  rw [h]
  have := List.length_filter_le (fun s => corN L s.x s.y L.length == 4) (L.take k)
  have := List.length_take_le k L
  omega

set_option maxRecDepth 100000 in
set_option maxHeartbeats 8000000 in
theorem specCross_any (W H : Int) (A : Option Addr) (n c : Nat) (L : List Sq) (w : World) (hl : L.length = n) (hc : n ≤ c) (hL : SqsAt w w.heap.size A L) :
    Calls Try.prog 23 #[.agg #[.int .i64 W, .int .i64 H, .slice A n c]] w (RetSS w (ifGood W H L (crossL L L.length)) (dc (Good W H L))) := by
  subst hl
  obtain ⟨j0, hj, hy0, hy1, hy2⟩ := info_parts infoSl
  have hb0 : ∀ o : Obj, Below w.heap.size w (w.alloc o) := fun o => (Below.refl _ _).alloc (Nat.le_refl _) o
  have Z0 : Box w.heap.size w (w.alloc (.cells #[.int .i64 W, .int .i64 H, .slice A L.length c] 24)) W H A c L := Box.start hL
  by_cases hG : Good W H L
  · rw [ifGood_yes hG, dc_true hG]
    have hg30 := hG.2.2.1.2
    have hfine : ∀ s ∈ L, Fine s := fun s hs => by
      obtain ⟨j, hj⟩ := List.mem_iff_getElem?.1 hs
      exact (hG.2.2.2.1 j s hj).1.fine hG.1.2 hG.2.1.2
    go_enter Try.func23, Try.ntmps23
    go_wp2_with fail
    refine (callB_yes (cuGood_any W H A _ c L _ rfl hc ((hL.below (hb0 _)).mono (hb0 _).size)) hG).mono ?_
    rintro e w1 ⟨rfl, hb1⟩
    have Z1 := Z0.next hb1
    obtain ⟨hB1, hz1, b0, b1, b2, hL1⟩ := id Z1
    clear Z0 hb1 hb0 hG
    go_wp2_with fail
    go_loopw [4, 13] (fun v i wr => ∃ (k : Nat) (A' : Option Addr) (n' c' : Nat) (R : List Rw), k ≤ L.length ∧ i = .int .i64 k ∧ v = .slice A' n' c' ∧ lists R = crossL L k ∧ OwnSS wr w1.heap.size A' n' c' R ∧ Below w1.heap.size w1 wr) (fun _ i _ => L.length - (intOf i).toNat)
    case atStart => exact ⟨0, none, 0, 0, [], Nat.zero_le _, rfl, rfl, by simp [lists, crossL], OwnSS.nil _ _, Below.refl _ _⟩
    case round =>
      obtain ⟨k, A1, n1, c1, R1, hk, rfl, rfl, hM, hS, hbr⟩ := hrel
      have hs1 := hbr.size
      have Zr := Z1.next hbr
      obtain ⟨hBr, hzr, d0, d1, d2, hLr⟩ := id Zr
      by_cases hlt : k < L.length
      · obtain ⟨s, hs⟩ : ∃ s, L[k]? = some s := ⟨_, List.getElem?_eq_getElem hlt⟩
        obtain ⟨b, off, rfl, hb, c0, c1', c2⟩ := hLr k s hs
        have hsuc := crossL_succ L k s hs
        have hn1 : n1 ≤ 30 := by
          have e := hS.len
          rw [← lists_len, hM] at e
          have := crossL_len L k
          omega
        have HM := Lib.hid hM
        have k0 : (0 : Int) ≤ (k : Int) := by omega
        have k1 : (k : Int) < (L.length : Int) := by omega
        clear hM hs b0 b1 b2 hL1
        go_wp2_with fail
        obtain ⟨W2, hW2⟩ : ∃ W2, W2 = wr.alloc (.cells #[.int .i64 s.x, .int .i64 s.y, .int .i64 s.d] 39) := ⟨_, rfl⟩
        have hb2 : Below wr.heap.size wr W2 := by rw [hW2]; exact (Below.refl _ _).alloc (Nat.le_refl _) _
        have f0 : W2.cell? ⟨wr.heap.size, 0, none⟩ = some (.int .i64 s.x) := by rw [hW2]; simp
        have f1 : W2.cell? ⟨wr.heap.size, 1, none⟩ = some (.int .i64 s.y) := by rw [hW2]; simp
        have hz2 : wr.heap.size < W2.heap.size := by rw [hW2]; simp
        have Z2 := Zr.next hb2
        obtain ⟨hB2, hzz, e0, e1, e2, hL2⟩ := id Z2
        have hS2 := hS.keep hb2
        have hB12 := hbr.trans (hb2.mono hs1)
        obtain ⟨g, hg⟩ : ∃ g, g = wr.heap.size := ⟨_, rfl⟩
        rw [← hW2]
        rw [← hg] at f0 f1 hz2 ⊢
        clear hW2 c0 c1' c2 d0 d1 d2 hLr hb2 hg hS Zr
        have HSU := Lib.hid hsuc
        have HL2 := Lib.hid (hL2.mono hB2.size)
        clear hsuc hL2
        by_cases h4 : corN L s.x s.y L.length = 4
        · have e9 : (((corN L s.x s.y L.length : Nat) : Int) == 4) = true := by simp; omega
          obtain ⟨N0, hN0⟩ : ∃ z, corN L s.x s.y L.length = z := ⟨_, rfl⟩
          have CC := cuCorners_any W H (some ⟨b, off, none⟩) L.length c L s.x s.y W2 rfl hg30 HL2.out hfine
          rw [hN0] at e9 CC
          clear hN0
          go_wp2_with fail
          refine CC.mono ?_
          rintro e w3 ⟨rfl, hb3⟩
          clear CC
          have f0' := (hb3.cell (p := ⟨g, 0, none⟩) hz2).trans f0
          have f1' := (hb3.cell (p := ⟨g, 1, none⟩) hz2).trans f1
          have hS3 := hS2.keep hb3
          have hB3 := hB12.trans (hb3.mono hB12.size)
          have hz3 := hb3.size
          have hz3' : g < w3.heap.size := by omega
          have hw1 := hB3.size
          have hcr := HSU.out
          rw [if_pos (by simpa using h4)] at hcr
          have HC := Lib.hid hcr
          clear hcr h4 hb3 f0 f1 hS2 hB12 HL2 HSU e0 e1 e2
          have hbl : n1 + 1 ≤ maxLen := by unfold maxLen; omega
          have hby : (n1 + 1) * 24 ≤ 140737488355328 := by omega
          go_wp2_with (at_builtin; refine app_list rfl _ _ _ rfl w1.heap.size 26 j0 (.slice none 0 0) 1 24 Try.underlying31 hj hy0 hy1 hy2 rfl (by decide) (.slice A1 n1 c1) n1 _ rfl ((hS3.outer.alloc _).alloc _) (some ⟨w3.heap.size + 1, 0, none⟩) 1 1 [.slice (some ⟨w3.heap.size, 0, none⟩) 2 2] rfl rfl (.inr ⟨_, rfl, new1' _ _ _ _⟩) (one1 _ rfl) hbl hby (by simp; omega) ?_; intro v' w6 hown6 hgrow hv6)
          have hB7 : Below w1.heap.size w1 w6 := ((hB3.alloc hw1 _).alloc (by simp; omega) _).grown hgrow (by simp; omega) (fun k hk => (hS3.lt (.inl hk)).1)
          obtain ⟨A7, c7, rfl, hS7⟩ := (hS3.keep (((Below.refl _ _).alloc (Nat.le_refl _) _).alloc (by simp) _)).push ⟨some ⟨w3.heap.size, 0, none⟩, 2, [s.x, s.y]⟩ ((World.ownsRow_lit w3 #[.int .i64 s.x, .int .i64 s.y] 2 hw1 (by unfold maxLen; omega) rfl).alloc _) (fun kk hkk hkb => by have := (hS3.lt hkb).2; simp [Rw.val, Value.ownBlock] at hkk; omega) hown6 hgrow hv6
          clear hgrow hown6 hv6 hS3
          go_wp2_with fail
          go_roundw
          case rel => exact ⟨k + 1, A7, n1 + 1, c7, _, by omega, by go_num, rfl, by rw [HC.out, lists_app, HM.out]; rfl, hS7, hB7⟩
          case measure => simp [intOf]; omega
        · have e9 : (((corN L s.x s.y L.length : Nat) : Int) == 4) = false := by simp; omega
          obtain ⟨N0, hN0⟩ : ∃ z, corN L s.x s.y L.length = z := ⟨_, rfl⟩
          have CC := cuCorners_any W H (some ⟨b, off, none⟩) L.length c L s.x s.y W2 rfl hg30 HL2.out hfine
          rw [hN0] at e9 CC
          clear hN0
          go_wp2_with fail
          refine CC.mono ?_
          rintro e w3 ⟨rfl, hb3⟩
          clear CC
          have hS3 := hS2.keep hb3
          have hB3 := hB12.trans (hb3.mono hB12.size)
          have hcr := HSU.out
          rw [if_neg (by simpa using h4)] at hcr
          have HC := Lib.hid hcr
          clear hcr h4 hb3 f0 f1 hS2 hB12 HL2 HSU e0 e1 e2
          go_wp2_with fail
          go_roundw
          case rel => exact ⟨k + 1, A1, n1, c1, R1, by omega, by go_num, rfl, by rw [HC.out, List.append_nil]; exact HM.out, hS3, hB3⟩
          case measure => simp [intOf]; omega
      · obtain rfl : k = L.length := by omega
        go_wp2_with fail
        go_ret2
        exact RetSS.mk hM (hS.based hB1.size) (hB1.trans (hbr.mono hB1.size))
  · rw [ifGood_no hG, dc_false hG]
    go_enter Try.func23, Try.ntmps23
    go_wp2_with fail
    refine (callB_no (cuGood_any W H A _ c L _ rfl hc ((hL.below (hb0 _)).mono (hb0 _).size)) hG).mono ?_
    rintro e w1 ⟨rfl, hb1⟩
    go_wp2_with fail
    go_ret2
    exact RetSS.none_ ((hb0 _).trans (hb1.mono (hb0 _).size))

set_option maxRecDepth 100000 in
set_option maxHeartbeats 8000000 in
theorem implCross_any (W H : Int) (A : Option Addr) (n c : Nat) (L : List Sq) (w : World) (hl : L.length = n) (hc : n ≤ c) (hL : SqsAt w w.heap.size A L) (hwf : ∀ s ∈ L, wfS s) :
    Calls Try.prog 22 #[.agg #[.int .i64 W, .int .i64 H, .slice A n c]] w (RetSS w (ifGood W H L (crossL L L.length)) (dc (Good W H L))) := by
  subst hl
  obtain ⟨j0, hj, hy0, hy1, hy2⟩ := info_parts infoSl
  have hb0 : ∀ o : Obj, Below w.heap.size w (w.alloc o) := fun o => (Below.refl _ _).alloc (Nat.le_refl _) o
  have Z0 : Box w.heap.size w (w.alloc (.cells #[.int .i64 W, .int .i64 H, .slice A L.length c] 24)) W H A c L := Box.start hL
  by_cases hG : Good W H L
  · rw [ifGood_yes hG, dc_true hG]
    have hg30 := hG.2.2.1.2
    have hfine : ∀ s ∈ L, Fine s := fun s hs => by
      obtain ⟨j, hj⟩ := List.mem_iff_getElem?.1 hs
      exact (hG.2.2.2.1 j s hj).1.fine hG.1.2 hG.2.1.2
    go_enter Try.func22, Try.ntmps22
    go_wp2_with fail
    refine (callB_yes (isCut_good W H A _ c L _ rfl hc ((hL.below (hb0 _)).mono (hb0 _).size) hwf) hG).mono ?_
    rintro e w1 ⟨rfl, hb1⟩
    have Z1 := Z0.next hb1
    obtain ⟨hB1, hz1, b0, b1, b2, hL1⟩ := id Z1
    clear Z0 hb1 hb0 hG
    go_wp2_with fail
    go_loopw [4, 13] (fun v i wr => ∃ (k : Nat) (A' : Option Addr) (n' c' : Nat) (R : List Rw), k ≤ L.length ∧ i = .int .i64 k ∧ v = .slice A' n' c' ∧ lists R = crossL L k ∧ OwnSS wr w1.heap.size A' n' c' R ∧ Below w1.heap.size w1 wr) (fun _ i _ => L.length - (intOf i).toNat)
    case atStart => exact ⟨0, none, 0, 0, [], Nat.zero_le _, rfl, rfl, by simp [lists, crossL], OwnSS.nil _ _, Below.refl _ _⟩
    case round =>
      obtain ⟨k, A1, n1, c1, R1, hk, rfl, rfl, hM, hS, hbr⟩ := hrel
      have hs1 := hbr.size
      have Zr := Z1.next hbr
      obtain ⟨hBr, hzr, d0, d1, d2, hLr⟩ := id Zr
      by_cases hlt : k < L.length
      · obtain ⟨s, hs⟩ : ∃ s, L[k]? = some s := ⟨_, List.getElem?_eq_getElem hlt⟩
        obtain ⟨b, off, rfl, hb, c0, c1', c2⟩ := hLr k s hs
        have hsuc := crossL_succ L k s hs
        have hn1 : n1 ≤ 30 := by
          have e := hS.len
          rw [← lists_len, hM] at e
          have := crossL_len L k
          omega
        have HM := Lib.hid hM
        have k0 : (0 : Int) ≤ (k : Int) := by omega
        have k1 : (k : Int) < (L.length : Int) := by omega
        clear hM hs b0 b1 b2 hL1
        go_wp2_with fail
        obtain ⟨W2, hW2⟩ : ∃ W2, W2 = wr.alloc (.cells #[.int .i64 s.x, .int .i64 s.y, .int .i64 s.d] 39) := ⟨_, rfl⟩
        have hb2 : Below wr.heap.size wr W2 := by rw [hW2]; exact (Below.refl _ _).alloc (Nat.le_refl _) _
        have f0 : W2.cell? ⟨wr.heap.size, 0, none⟩ = some (.int .i64 s.x) := by rw [hW2]; simp
        have f1 : W2.cell? ⟨wr.heap.size, 1, none⟩ = some (.int .i64 s.y) := by rw [hW2]; simp
        have hz2 : wr.heap.size < W2.heap.size := by rw [hW2]; simp
        have Z2 := Zr.next hb2
        obtain ⟨hB2, hzz, e0, e1, e2, hL2⟩ := id Z2
        have hS2 := hS.keep hb2
        have hB12 := hbr.trans (hb2.mono hs1)
        obtain ⟨g, hg⟩ : ∃ g, g = wr.heap.size := ⟨_, rfl⟩
        rw [← hW2]
        rw [← hg] at f0 f1 hz2 ⊢
        clear hW2 c0 c1' c2 d0 d1 d2 hLr hb2 hg hS Zr
        have HSU := Lib.hid hsuc
        have HL2 := Lib.hid (hL2.mono hB2.size)
        clear hsuc hL2
        by_cases h4 : corN L s.x s.y L.length = 4
        · go_wp2_with fail
          refine (callB_yes (isCross_any W H _ L.length c L s.x s.y _ rfl hg30 HL2.out hfine) h4).mono ?_
          rintro e w3 ⟨rfl, hb3⟩
          have f0' := (hb3.cell (p := ⟨g, 0, none⟩) hz2).trans f0
          have f1' := (hb3.cell (p := ⟨g, 1, none⟩) hz2).trans f1
          have hS3 := hS2.keep hb3
          have hB3 := hB12.trans (hb3.mono hB12.size)
          have hz3 := hb3.size
          have hz3' : g < w3.heap.size := by omega
          have hw1 := hB3.size
          have hcr := HSU.out
          rw [if_pos (by simpa using h4)] at hcr
          have HC := Lib.hid hcr
          clear hcr h4 hb3 f0 f1 hS2 hB12 HL2 HSU e0 e1 e2
          have hbl : n1 + 1 ≤ maxLen := by unfold maxLen; omega
          have hby : (n1 + 1) * 24 ≤ 140737488355328 := by omega
          go_wp2_with (at_builtin; refine app_list rfl _ _ _ rfl w1.heap.size 26 j0 (.slice none 0 0) 1 24 Try.underlying31 hj hy0 hy1 hy2 rfl (by decide) (.slice A1 n1 c1) n1 _ rfl ((hS3.outer.alloc _).alloc _) (some ⟨w3.heap.size + 1, 0, none⟩) 1 1 [.slice (some ⟨w3.heap.size, 0, none⟩) 2 2] rfl rfl (.inr ⟨_, rfl, new1' _ _ _ _⟩) (one1 _ rfl) hbl hby (by simp; omega) ?_; intro v' w6 hown6 hgrow hv6)
          have hB7 : Below w1.heap.size w1 w6 := ((hB3.alloc hw1 _).alloc (by simp; omega) _).grown hgrow (by simp; omega) (fun k hk => (hS3.lt (.inl hk)).1)
          obtain ⟨A7, c7, rfl, hS7⟩ := (hS3.keep (((Below.refl _ _).alloc (Nat.le_refl _) _).alloc (by simp) _)).push ⟨some ⟨w3.heap.size, 0, none⟩, 2, [s.x, s.y]⟩ ((World.ownsRow_lit w3 #[.int .i64 s.x, .int .i64 s.y] 2 hw1 (by unfold maxLen; omega) rfl).alloc _) (fun kk hkk hkb => by have := (hS3.lt hkb).2; simp [Rw.val, Value.ownBlock] at hkk; omega) hown6 hgrow hv6
          clear hgrow hown6 hv6 hS3
          go_wp2_with fail
          go_roundw
          case rel => exact ⟨k + 1, A7, n1 + 1, c7, _, by omega, by go_num, rfl, by rw [HC.out, lists_app, HM.out]; rfl, hS7, hB7⟩
          case measure => simp [intOf]; omega
        · go_wp2_with fail
          refine (callB_no (isCross_any W H _ L.length c L s.x s.y _ rfl hg30 HL2.out hfine) h4).mono ?_
          rintro e w3 ⟨rfl, hb3⟩
          have hS3 := hS2.keep hb3
          have hB3 := hB12.trans (hb3.mono hB12.size)
          have hcr := HSU.out
          rw [if_neg (by simpa using h4)] at hcr
          have HC := Lib.hid hcr
          clear hcr h4 hb3 f0 f1 hS2 hB12 HL2 HSU e0 e1 e2
          go_wp2_with fail
          go_roundw
          case rel => exact ⟨k + 1, A1, n1, c1, R1, by omega, by go_num, rfl, by rw [HC.out, List.append_nil]; exact HM.out, hS3, hB3⟩
          case measure => simp [intOf]; omega
      · obtain rfl : k = L.length := by omega
        go_wp2_with fail
        go_ret2
        exact RetSS.mk hM (hS.based hB1.size) (hB1.trans (hbr.mono hB1.size))
  · rw [ifGood_no hG, dc_false hG]
    go_enter Try.func22, Try.ntmps22
    go_wp2_with fail
    refine (callB_no (isCut_good W H A _ c L _ rfl hc ((hL.below (hb0 _)).mono (hb0 _).size) hwf) hG).mono ?_
    rintro e w1 ⟨rfl, hb1⟩
    go_wp2_with fail
    go_ret2
    exact RetSS.none_ ((hb0 _).trans (hb1.mono (hb0 _).size))
end Go.Proofs.Ytgghkimjminbaaa
