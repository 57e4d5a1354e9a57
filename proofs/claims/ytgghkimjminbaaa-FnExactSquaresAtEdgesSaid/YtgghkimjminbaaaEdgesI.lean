/- Contract of the program's SquaresAtEdges. -/
import Derived.Test.YtgghkimjminbaaaEdges
set_option linter.all false
namespace Go.Proofs.Ytgghkimjminbaaa
open Go.RowKit

set_option maxRecDepth 100000 in
set_option maxHeartbeats 8000000 in
theorem implEdges_any (W H : Int) (A : Option Addr) (n c : Nat) (L : List Sq) (w : World) (hl : L.length = n) (hc : n ≤ c) (hL : SqsAt w w.heap.size A L) (hwf : ∀ s ∈ L, wfS s) :
    Calls Try.prog 20 #[.agg #[.int .i64 W, .int .i64 H, .slice A n c]] w (RetInts w (ifGood W H L (edgesU W H L L.length)) (dc (Good W H L))) := by
  subst hl
  obtain ⟨i0, hi, hz0, hz1, hz2⟩ := info_parts infoInt
  have hb0 : ∀ o : Obj, Below w.heap.size w (w.alloc o) := fun o => (Below.refl _ _).alloc (Nat.le_refl _) o
  have Z0 : Box w.heap.size w (w.alloc (.cells #[.int .i64 W, .int .i64 H, .slice A L.length c] 24)) W H A c L := Box.start hL
  by_cases hG : Good W H L
  · rw [ifGood_yes hG, dc_true hG]
    have hg30 := hG.2.2.1.2
    have hW5 := hG.1
    have hH5 := hG.2.1
    go_enter Try.func20, Try.ntmps20
    go_wp2_with fail
    refine (callB_yes (isCut_good W H A _ c L _ rfl hc ((hL.below (hb0 _)).mono (hb0 _).size) hwf) hG).mono ?_
    rintro e w1 ⟨rfl, hb1⟩
    have Z1 := Z0.next hb1
    obtain ⟨hB1, hz1', b0, b1, b2, hL1⟩ := id Z1
    clear Z0 hb1 hb0
    go_wp2_with (at_make; refine wpList_make_full _ rfl _ _ 26 rfl w1.heap.size 3 i0 (.int .i64 0) 1 Try.underlying26 hi hz0 hz1 .i64 .i64 4 4 4 rfl rfl rfl rfl (by rw [hz2]; omega) (by decide) (Nat.le_refl _) ?_; intro w2 hown hgrow; have hb2 : Below w1.heap.size w1 w2 := (Below.refl _ w1).grown hgrow (Nat.le_refl _) (by simp); have d2 := (hb2.cell (p := ⟨w.heap.size, 2, none⟩) hz1').trans b2)
    have Z2 := Z1.next hb2
    obtain ⟨g, hg⟩ : ∃ g, g = w1.heap.size := ⟨_, rfl⟩
    rw [← hg] at hown hz1' ⊢
    have hown := own_base hown (show w.heap.size + 1 ≤ g from hz1')
    have HBg := Lib.hid hg
    clear hg hgrow hb2 b0 b1 b2 d2 hL1 hB1 Z1
    go_loopw [17] (fun i wr => ∃ m : Nat, m ≤ L.length ∧ i = .int .i64 m ∧ Box w.heap.size w wr W H A c L ∧ ∃ xs, wr.ownsRow (w.heap.size + 1) 3 1 (.slice (some ⟨g, 0, none⟩) 4 4) 4 xs ∧ xs = ints (edgesU W H L m)) (fun i _ => L.length - (intOf i).toNat)
    case atStart => exact ⟨0, Nat.zero_le _, rfl, Z2, _, hown, by rw [show (Value.int IntKind.i64 0).cells = #[Value.int IntKind.i64 0] from rfl, toList_madeCells_one]; simp [edgesU, cntU, ints, List.replicate]⟩
    case round =>
      obtain ⟨m, hm, rfl, Zr, xs, hown1, hxs⟩ := hrel
      obtain ⟨hbr, hzr, b0, b1, b2, hLr⟩ := id Zr
      by_cases hlt : m < L.length
      · obtain ⟨s, hs⟩ : ∃ s, L[m]? = some s := ⟨_, List.getElem?_eq_getElem hlt⟩
        obtain ⟨b, off, rfl, hb, c0, c1, c2⟩ := hLr m s hs
        have hw := (hG.2.2.2.1 m s hs).1
        have hd5 := (hG.2.2.2.1 m s hs).2.1
        unfold Within at hw
        subst hxs
        have hgl := (own_lt hown1).2
        have hgb := (own_lt hown1).1
        obtain ⟨n0, hn0⟩ : ∃ z, cntU e0 L m = z := ⟨_, rfl⟩
        obtain ⟨n1, hn1⟩ : ∃ z, cntU (e1 W) L m = z := ⟨_, rfl⟩
        obtain ⟨n2, hn2⟩ : ∃ z, cntU (e2 H) L m = z := ⟨_, rfl⟩
        obtain ⟨n3, hn3⟩ : ∃ z, cntU e3 L m = z := ⟨_, rfl⟩
        have r0 := cntU_bd e0 L m
        have r1 := cntU_bd (e1 W) L m
        have r2 := cntU_bd (e2 H) L m
        have r3 := cntU_bd e3 L m
        have hE : edgesU W H L m = [n0, n1, n2, n3] := by simp only [edgesU, hn0, hn1, hn2, hn3]
        rw [hE] at hown1
        rw [hn0] at r0
        rw [hn1] at r1
        rw [hn2] at r2
        rw [hn3] at r3
        have q0 : wr.cell? ⟨g, 0, none⟩ = some (.int .i64 n0) := (hown1.cellAt 0 (by decide)).trans rfl
        have q1 : wr.cell? ⟨g, 1, none⟩ = some (.int .i64 n1) := (hown1.cellAt 1 (by decide)).trans rfl
        have q2 : wr.cell? ⟨g, 2, none⟩ = some (.int .i64 n2) := (hown1.cellAt 2 (by decide)).trans rfl
        have q3 : wr.cell? ⟨g, 3, none⟩ = some (.int .i64 n3) := (hown1.cellAt 3 (by decide)).trans rfl
        have f0 := hown1.frozenAt 0
        have f1 := hown1.frozenAt 1
        have f2 := hown1.frozenAt 2
        have f3 := hown1.frozenAt 3
        have hne : w.heap.size ≠ g := by omega
        have HN := Lib.hid (And.intro hn0 (And.intro hn1 (And.intro hn2 hn3)))
        have HS := Lib.hid hs
        have HO := Lib.hid hown1
        clear hn0 hn1 hn2 hn3 hE hs hLr hL hown1 hown Z2
        have step : ∀ t0 t1 t2 t3 : Bool, (s.y == 0) = t0 → (s.x + s.d == W) = t1 → (s.y + s.d == H) = t2 → (s.x == 0) = t3 →
            edgesU W H L (m + 1) = [if t0 then n0 + 1 else n0, if t1 then n1 + 1 else n1, if t2 then n2 + 1 else n2, if t3 then n3 + 1 else n3] := by
          intro t0 t1 t2 t3 h0 h1 h2 h3
          obtain ⟨hn0, hn1, hn2, hn3⟩ := HN.out
          have k0 : cntU e0 L (m + 1) = if t0 then n0 + 1 else n0 := by
            cases t0
            · rw [cntU_no HS.out (show e0 s = false from h0), hn0]; rfl
            · rw [cntU_yes HS.out (show e0 s = true from h0), hn0]; rfl
          have k1 : cntU (e1 W) L (m + 1) = if t1 then n1 + 1 else n1 := by
            cases t1
            · rw [cntU_no HS.out (show e1 W s = false from h1), hn1]; rfl
            · rw [cntU_yes HS.out (show e1 W s = true from h1), hn1]; rfl
          have k2 : cntU (e2 H) L (m + 1) = if t2 then n2 + 1 else n2 := by
            cases t2
            · rw [cntU_no HS.out (show e2 H s = false from h2), hn2]; rfl
            · rw [cntU_yes HS.out (show e2 H s = true from h2), hn2]; rfl
          have k3 : cntU e3 L (m + 1) = if t3 then n3 + 1 else n3 := by
            cases t3
            · rw [cntU_no HS.out (show e3 s = false from h3), hn3]; rfl
            · rw [cntU_yes HS.out (show e3 s = true from h3), hn3]; rfl
          simp only [edgesU, k0, k1, k2, k3]
        have Step := Lib.hid step
        clear step
        have ZR := Lib.hid Zr
        clear Zr
        cases h0 : (s.y == 0)
        · cases h1 : (s.x + s.d == W)
          · cases h2 : (s.y + s.d == H)
            · cases h3 : (s.x == 0)
              · have HE := Lib.hid (Step.out _ _ _ _ h0 h1 h2 h3)
                have i0 : ∀ (x0 x1 x2 x3 : Bool) (w : World), (Instr.index 74 (.agg #[.bool x0, .bool x1, .bool x2, .bool x3]) (.int .i64 0)).run Try.prog w = .ok (.bool x0) w := fun _ _ _ _ _ => by kernel_rfl
                have i1 : ∀ (x0 x1 x2 x3 : Bool) (w : World), (Instr.index 74 (.agg #[.bool x0, .bool x1, .bool x2, .bool x3]) (.int .i64 1)).run Try.prog w = .ok (.bool x1) w := fun _ _ _ _ _ => by kernel_rfl
                have i2 : ∀ (x0 x1 x2 x3 : Bool) (w : World), (Instr.index 74 (.agg #[.bool x0, .bool x1, .bool x2, .bool x3]) (.int .i64 2)).run Try.prog w = .ok (.bool x2) w := fun _ _ _ _ _ => by kernel_rfl
                have i3 : ∀ (x0 x1 x2 x3 : Bool) (w : World), (Instr.index 74 (.agg #[.bool x0, .bool x1, .bool x2, .bool x3]) (.int .i64 3)).run Try.prog w = .ok (.bool x3) w := fun _ _ _ _ _ => by kernel_rfl
                go_wp2_with fail
                refine wp_loop_rounds 5 ?_
                rw [rounds_succ]
                go_wp2_with fail
                rw [rounds_succ]
                go_wp2_with fail
                rw [rounds_succ]
                go_wp2_with fail
                rw [rounds_succ]
                go_wp2_with fail
                rw [rounds_succ]
                go_wp2_with fail
                go_roundw
                case rel =>
                  refine ⟨m + 1, by omega, by go_num, ?_, _, ?_, rfl⟩
                  · refine ZR.out.keep (B' := w.heap.size + 1) ?_ (Nat.lt_succ_self _) ?_
                    · repeat (first | with_reducible exact Below.refl _ _ | (with_reducible refine Below.alloc ?_ ?_ _; rotate_left; (first | omega | (simp <;> omega))) | with_reducible refine Below.setCell ?_ hgb _)
                    · first | omega | (simp <;> omega)
                  · rw [HE.out]
                    exact own_congr ((HO.out.alloc _).alloc _) (by simp [ints])
                case measure => simp [intOf]; omega
              · have HE := Lib.hid (Step.out _ _ _ _ h0 h1 h2 h3)
                have i0 : ∀ (x0 x1 x2 x3 : Bool) (w : World), (Instr.index 74 (.agg #[.bool x0, .bool x1, .bool x2, .bool x3]) (.int .i64 0)).run Try.prog w = .ok (.bool x0) w := fun _ _ _ _ _ => by kernel_rfl
                have i1 : ∀ (x0 x1 x2 x3 : Bool) (w : World), (Instr.index 74 (.agg #[.bool x0, .bool x1, .bool x2, .bool x3]) (.int .i64 1)).run Try.prog w = .ok (.bool x1) w := fun _ _ _ _ _ => by kernel_rfl
                have i2 : ∀ (x0 x1 x2 x3 : Bool) (w : World), (Instr.index 74 (.agg #[.bool x0, .bool x1, .bool x2, .bool x3]) (.int .i64 2)).run Try.prog w = .ok (.bool x2) w := fun _ _ _ _ _ => by kernel_rfl
                have i3 : ∀ (x0 x1 x2 x3 : Bool) (w : World), (Instr.index 74 (.agg #[.bool x0, .bool x1, .bool x2, .bool x3]) (.int .i64 3)).run Try.prog w = .ok (.bool x3) w := fun _ _ _ _ _ => by kernel_rfl
                go_wp2_with fail
                refine wp_loop_rounds 5 ?_
                rw [rounds_succ]
                go_wp2_with fail
                rw [rounds_succ]
                go_wp2_with fail
                rw [rounds_succ]
                go_wp2_with fail
                rw [rounds_succ]
                go_wp2_with fail
                rw [rounds_succ]
                go_wp2_with fail
                go_roundw
                case rel =>
                  refine ⟨m + 1, by omega, by go_num, ?_, _, ?_, rfl⟩
                  · refine ZR.out.keep (B' := w.heap.size + 1) ?_ (Nat.lt_succ_self _) ?_
                    · repeat (first | with_reducible exact Below.refl _ _ | (with_reducible refine Below.alloc ?_ ?_ _; rotate_left; (first | omega | (simp <;> omega))) | with_reducible refine Below.setCell ?_ hgb _)
                    · first | omega | (simp <;> omega)
                  · rw [HE.out]
                    exact own_congr (((HO.out.stored 3 _).1.alloc _).alloc _) (by simp [ints])
                case measure => simp [intOf]; omega
            · cases h3 : (s.x == 0)
              · have HE := Lib.hid (Step.out _ _ _ _ h0 h1 h2 h3)
                have i0 : ∀ (x0 x1 x2 x3 : Bool) (w : World), (Instr.index 74 (.agg #[.bool x0, .bool x1, .bool x2, .bool x3]) (.int .i64 0)).run Try.prog w = .ok (.bool x0) w := fun _ _ _ _ _ => by kernel_rfl
                have i1 : ∀ (x0 x1 x2 x3 : Bool) (w : World), (Instr.index 74 (.agg #[.bool x0, .bool x1, .bool x2, .bool x3]) (.int .i64 1)).run Try.prog w = .ok (.bool x1) w := fun _ _ _ _ _ => by kernel_rfl
                have i2 : ∀ (x0 x1 x2 x3 : Bool) (w : World), (Instr.index 74 (.agg #[.bool x0, .bool x1, .bool x2, .bool x3]) (.int .i64 2)).run Try.prog w = .ok (.bool x2) w := fun _ _ _ _ _ => by kernel_rfl
                have i3 : ∀ (x0 x1 x2 x3 : Bool) (w : World), (Instr.index 74 (.agg #[.bool x0, .bool x1, .bool x2, .bool x3]) (.int .i64 3)).run Try.prog w = .ok (.bool x3) w := fun _ _ _ _ _ => by kernel_rfl
                go_wp2_with fail
                refine wp_loop_rounds 5 ?_
                rw [rounds_succ]
                go_wp2_with fail
                rw [rounds_succ]
                go_wp2_with fail
                rw [rounds_succ]
                go_wp2_with fail
                rw [rounds_succ]
                go_wp2_with fail
                rw [rounds_succ]
                go_wp2_with fail
                go_roundw
                case rel =>
                  refine ⟨m + 1, by omega, by go_num, ?_, _, ?_, rfl⟩
                  · refine ZR.out.keep (B' := w.heap.size + 1) ?_ (Nat.lt_succ_self _) ?_
                    · repeat (first | with_reducible exact Below.refl _ _ | (with_reducible refine Below.alloc ?_ ?_ _; rotate_left; (first | omega | (simp <;> omega))) | with_reducible refine Below.setCell ?_ hgb _)
                    · first | omega | (simp <;> omega)
                  · rw [HE.out]
                    exact own_congr (((HO.out.stored 2 _).1.alloc _).alloc _) (by simp [ints])
                case measure => simp [intOf]; omega
              · have HE := Lib.hid (Step.out _ _ _ _ h0 h1 h2 h3)
                have i0 : ∀ (x0 x1 x2 x3 : Bool) (w : World), (Instr.index 74 (.agg #[.bool x0, .bool x1, .bool x2, .bool x3]) (.int .i64 0)).run Try.prog w = .ok (.bool x0) w := fun _ _ _ _ _ => by kernel_rfl
                have i1 : ∀ (x0 x1 x2 x3 : Bool) (w : World), (Instr.index 74 (.agg #[.bool x0, .bool x1, .bool x2, .bool x3]) (.int .i64 1)).run Try.prog w = .ok (.bool x1) w := fun _ _ _ _ _ => by kernel_rfl
                have i2 : ∀ (x0 x1 x2 x3 : Bool) (w : World), (Instr.index 74 (.agg #[.bool x0, .bool x1, .bool x2, .bool x3]) (.int .i64 2)).run Try.prog w = .ok (.bool x2) w := fun _ _ _ _ _ => by kernel_rfl
                have i3 : ∀ (x0 x1 x2 x3 : Bool) (w : World), (Instr.index 74 (.agg #[.bool x0, .bool x1, .bool x2, .bool x3]) (.int .i64 3)).run Try.prog w = .ok (.bool x3) w := fun _ _ _ _ _ => by kernel_rfl
                go_wp2_with fail
                refine wp_loop_rounds 5 ?_
                rw [rounds_succ]
                go_wp2_with fail
                rw [rounds_succ]
                go_wp2_with fail
                rw [rounds_succ]
                go_wp2_with fail
                rw [rounds_succ]
                go_wp2_with fail
                rw [rounds_succ]
                go_wp2_with fail
                go_roundw
                case rel =>
                  refine ⟨m + 1, by omega, by go_num, ?_, _, ?_, rfl⟩
                  · refine ZR.out.keep (B' := w.heap.size + 1) ?_ (Nat.lt_succ_self _) ?_
                    · repeat (first | with_reducible exact Below.refl _ _ | (with_reducible refine Below.alloc ?_ ?_ _; rotate_left; (first | omega | (simp <;> omega))) | with_reducible refine Below.setCell ?_ hgb _)
                    · first | omega | (simp <;> omega)
                  · rw [HE.out]
                    exact own_congr ((((HO.out.stored 2 _).1.stored 3 _).1.alloc _).alloc _) (by simp [ints])
                case measure => simp [intOf]; omega
          · cases h2 : (s.y + s.d == H)
            · cases h3 : (s.x == 0)
              · have HE := Lib.hid (Step.out _ _ _ _ h0 h1 h2 h3)
                have i0 : ∀ (x0 x1 x2 x3 : Bool) (w : World), (Instr.index 74 (.agg #[.bool x0, .bool x1, .bool x2, .bool x3]) (.int .i64 0)).run Try.prog w = .ok (.bool x0) w := fun _ _ _ _ _ => by kernel_rfl
                have i1 : ∀ (x0 x1 x2 x3 : Bool) (w : World), (Instr.index 74 (.agg #[.bool x0, .bool x1, .bool x2, .bool x3]) (.int .i64 1)).run Try.prog w = .ok (.bool x1) w := fun _ _ _ _ _ => by kernel_rfl
                have i2 : ∀ (x0 x1 x2 x3 : Bool) (w : World), (Instr.index 74 (.agg #[.bool x0, .bool x1, .bool x2, .bool x3]) (.int .i64 2)).run Try.prog w = .ok (.bool x2) w := fun _ _ _ _ _ => by kernel_rfl
                have i3 : ∀ (x0 x1 x2 x3 : Bool) (w : World), (Instr.index 74 (.agg #[.bool x0, .bool x1, .bool x2, .bool x3]) (.int .i64 3)).run Try.prog w = .ok (.bool x3) w := fun _ _ _ _ _ => by kernel_rfl
                go_wp2_with fail
                refine wp_loop_rounds 5 ?_
                rw [rounds_succ]
                go_wp2_with fail
                rw [rounds_succ]
                go_wp2_with fail
                rw [rounds_succ]
                go_wp2_with fail
                rw [rounds_succ]
                go_wp2_with fail
                rw [rounds_succ]
                go_wp2_with fail
                go_roundw
                case rel =>
                  refine ⟨m + 1, by omega, by go_num, ?_, _, ?_, rfl⟩
                  · refine ZR.out.keep (B' := w.heap.size + 1) ?_ (Nat.lt_succ_self _) ?_
                    · repeat (first | with_reducible exact Below.refl _ _ | (with_reducible refine Below.alloc ?_ ?_ _; rotate_left; (first | omega | (simp <;> omega))) | with_reducible refine Below.setCell ?_ hgb _)
                    · first | omega | (simp <;> omega)
                  · rw [HE.out]
                    exact own_congr (((HO.out.stored 1 _).1.alloc _).alloc _) (by simp [ints])
                case measure => simp [intOf]; omega
              · have HE := Lib.hid (Step.out _ _ _ _ h0 h1 h2 h3)
                have i0 : ∀ (x0 x1 x2 x3 : Bool) (w : World), (Instr.index 74 (.agg #[.bool x0, .bool x1, .bool x2, .bool x3]) (.int .i64 0)).run Try.prog w = .ok (.bool x0) w := fun _ _ _ _ _ => by kernel_rfl
                have i1 : ∀ (x0 x1 x2 x3 : Bool) (w : World), (Instr.index 74 (.agg #[.bool x0, .bool x1, .bool x2, .bool x3]) (.int .i64 1)).run Try.prog w = .ok (.bool x1) w := fun _ _ _ _ _ => by kernel_rfl
                have i2 : ∀ (x0 x1 x2 x3 : Bool) (w : World), (Instr.index 74 (.agg #[.bool x0, .bool x1, .bool x2, .bool x3]) (.int .i64 2)).run Try.prog w = .ok (.bool x2) w := fun _ _ _ _ _ => by kernel_rfl
                have i3 : ∀ (x0 x1 x2 x3 : Bool) (w : World), (Instr.index 74 (.agg #[.bool x0, .bool x1, .bool x2, .bool x3]) (.int .i64 3)).run Try.prog w = .ok (.bool x3) w := fun _ _ _ _ _ => by kernel_rfl
                go_wp2_with fail
                refine wp_loop_rounds 5 ?_
                rw [rounds_succ]
                go_wp2_with fail
                rw [rounds_succ]
                go_wp2_with fail
                rw [rounds_succ]
                go_wp2_with fail
                rw [rounds_succ]
                go_wp2_with fail
                rw [rounds_succ]
                go_wp2_with fail
                go_roundw
                case rel =>
                  refine ⟨m + 1, by omega, by go_num, ?_, _, ?_, rfl⟩
                  · refine ZR.out.keep (B' := w.heap.size + 1) ?_ (Nat.lt_succ_self _) ?_
                    · repeat (first | with_reducible exact Below.refl _ _ | (with_reducible refine Below.alloc ?_ ?_ _; rotate_left; (first | omega | (simp <;> omega))) | with_reducible refine Below.setCell ?_ hgb _)
                    · first | omega | (simp <;> omega)
                  · rw [HE.out]
                    exact own_congr ((((HO.out.stored 1 _).1.stored 3 _).1.alloc _).alloc _) (by simp [ints])
                case measure => simp [intOf]; omega
            · cases h3 : (s.x == 0)
              · have HE := Lib.hid (Step.out _ _ _ _ h0 h1 h2 h3)
                have i0 : ∀ (x0 x1 x2 x3 : Bool) (w : World), (Instr.index 74 (.agg #[.bool x0, .bool x1, .bool x2, .bool x3]) (.int .i64 0)).run Try.prog w = .ok (.bool x0) w := fun _ _ _ _ _ => by kernel_rfl
                have i1 : ∀ (x0 x1 x2 x3 : Bool) (w : World), (Instr.index 74 (.agg #[.bool x0, .bool x1, .bool x2, .bool x3]) (.int .i64 1)).run Try.prog w = .ok (.bool x1) w := fun _ _ _ _ _ => by kernel_rfl
                have i2 : ∀ (x0 x1 x2 x3 : Bool) (w : World), (Instr.index 74 (.agg #[.bool x0, .bool x1, .bool x2, .bool x3]) (.int .i64 2)).run Try.prog w = .ok (.bool x2) w := fun _ _ _ _ _ => by kernel_rfl
                have i3 : ∀ (x0 x1 x2 x3 : Bool) (w : World), (Instr.index 74 (.agg #[.bool x0, .bool x1, .bool x2, .bool x3]) (.int .i64 3)).run Try.prog w = .ok (.bool x3) w := fun _ _ _ _ _ => by kernel_rfl
                go_wp2_with fail
                refine wp_loop_rounds 5 ?_
                rw [rounds_succ]
                go_wp2_with fail
                rw [rounds_succ]
                go_wp2_with fail
                rw [rounds_succ]
                go_wp2_with fail
                rw [rounds_succ]
                go_wp2_with fail
                rw [rounds_succ]
                go_wp2_with fail
                go_roundw
                case rel =>
                  refine ⟨m + 1, by omega, by go_num, ?_, _, ?_, rfl⟩
                  · refine ZR.out.keep (B' := w.heap.size + 1) ?_ (Nat.lt_succ_self _) ?_
                    · repeat (first | with_reducible exact Below.refl _ _ | (with_reducible refine Below.alloc ?_ ?_ _; rotate_left; (first | omega | (simp <;> omega))) | with_reducible refine Below.setCell ?_ hgb _)
                    · first | omega | (simp <;> omega)
                  · rw [HE.out]
                    exact own_congr ((((HO.out.stored 1 _).1.stored 2 _).1.alloc _).alloc _) (by simp [ints])
                case measure => simp [intOf]; omega
              · have HE := Lib.hid (Step.out _ _ _ _ h0 h1 h2 h3)
                have i0 : ∀ (x0 x1 x2 x3 : Bool) (w : World), (Instr.index 74 (.agg #[.bool x0, .bool x1, .bool x2, .bool x3]) (.int .i64 0)).run Try.prog w = .ok (.bool x0) w := fun _ _ _ _ _ => by kernel_rfl
                have i1 : ∀ (x0 x1 x2 x3 : Bool) (w : World), (Instr.index 74 (.agg #[.bool x0, .bool x1, .bool x2, .bool x3]) (.int .i64 1)).run Try.prog w = .ok (.bool x1) w := fun _ _ _ _ _ => by kernel_rfl
                have i2 : ∀ (x0 x1 x2 x3 : Bool) (w : World), (Instr.index 74 (.agg #[.bool x0, .bool x1, .bool x2, .bool x3]) (.int .i64 2)).run Try.prog w = .ok (.bool x2) w := fun _ _ _ _ _ => by kernel_rfl
                have i3 : ∀ (x0 x1 x2 x3 : Bool) (w : World), (Instr.index 74 (.agg #[.bool x0, .bool x1, .bool x2, .bool x3]) (.int .i64 3)).run Try.prog w = .ok (.bool x3) w := fun _ _ _ _ _ => by kernel_rfl
                go_wp2_with fail
                refine wp_loop_rounds 5 ?_
                rw [rounds_succ]
                go_wp2_with fail
                rw [rounds_succ]
                go_wp2_with fail
                rw [rounds_succ]
                go_wp2_with fail
                rw [rounds_succ]
                go_wp2_with fail
                rw [rounds_succ]
                go_wp2_with fail
                go_roundw
                case rel =>
                  refine ⟨m + 1, by omega, by go_num, ?_, _, ?_, rfl⟩
                  · refine ZR.out.keep (B' := w.heap.size + 1) ?_ (Nat.lt_succ_self _) ?_
                    · repeat (first | with_reducible exact Below.refl _ _ | (with_reducible refine Below.alloc ?_ ?_ _; rotate_left; (first | omega | (simp <;> omega))) | with_reducible refine Below.setCell ?_ hgb _)
                    · first | omega | (simp <;> omega)
                  · rw [HE.out]
                    exact own_congr (((((HO.out.stored 1 _).1.stored 2 _).1.stored 3 _).1.alloc _).alloc _) (by simp [ints])
                case measure => simp [intOf]; omega
        · cases h1 : (s.x + s.d == W)
          · cases h2 : (s.y + s.d == H)
            · cases h3 : (s.x == 0)
              · have HE := Lib.hid (Step.out _ _ _ _ h0 h1 h2 h3)
                have i0 : ∀ (x0 x1 x2 x3 : Bool) (w : World), (Instr.index 74 (.agg #[.bool x0, .bool x1, .bool x2, .bool x3]) (.int .i64 0)).run Try.prog w = .ok (.bool x0) w := fun _ _ _ _ _ => by kernel_rfl
                have i1 : ∀ (x0 x1 x2 x3 : Bool) (w : World), (Instr.index 74 (.agg #[.bool x0, .bool x1, .bool x2, .bool x3]) (.int .i64 1)).run Try.prog w = .ok (.bool x1) w := fun _ _ _ _ _ => by kernel_rfl
                have i2 : ∀ (x0 x1 x2 x3 : Bool) (w : World), (Instr.index 74 (.agg #[.bool x0, .bool x1, .bool x2, .bool x3]) (.int .i64 2)).run Try.prog w = .ok (.bool x2) w := fun _ _ _ _ _ => by kernel_rfl
                have i3 : ∀ (x0 x1 x2 x3 : Bool) (w : World), (Instr.index 74 (.agg #[.bool x0, .bool x1, .bool x2, .bool x3]) (.int .i64 3)).run Try.prog w = .ok (.bool x3) w := fun _ _ _ _ _ => by kernel_rfl
                go_wp2_with fail
                refine wp_loop_rounds 5 ?_
                rw [rounds_succ]
                go_wp2_with fail
                rw [rounds_succ]
                go_wp2_with fail
                rw [rounds_succ]
                go_wp2_with fail
                rw [rounds_succ]
                go_wp2_with fail
                rw [rounds_succ]
                go_wp2_with fail
                go_roundw
                case rel =>
                  refine ⟨m + 1, by omega, by go_num, ?_, _, ?_, rfl⟩
                  · refine ZR.out.keep (B' := w.heap.size + 1) ?_ (Nat.lt_succ_self _) ?_
                    · repeat (first | with_reducible exact Below.refl _ _ | (with_reducible refine Below.alloc ?_ ?_ _; rotate_left; (first | omega | (simp <;> omega))) | with_reducible refine Below.setCell ?_ hgb _)
                    · first | omega | (simp <;> omega)
                  · rw [HE.out]
                    exact own_congr (((HO.out.stored 0 _).1.alloc _).alloc _) (by simp [ints])
                case measure => simp [intOf]; omega
              · have HE := Lib.hid (Step.out _ _ _ _ h0 h1 h2 h3)
                have i0 : ∀ (x0 x1 x2 x3 : Bool) (w : World), (Instr.index 74 (.agg #[.bool x0, .bool x1, .bool x2, .bool x3]) (.int .i64 0)).run Try.prog w = .ok (.bool x0) w := fun _ _ _ _ _ => by kernel_rfl
                have i1 : ∀ (x0 x1 x2 x3 : Bool) (w : World), (Instr.index 74 (.agg #[.bool x0, .bool x1, .bool x2, .bool x3]) (.int .i64 1)).run Try.prog w = .ok (.bool x1) w := fun _ _ _ _ _ => by kernel_rfl
                have i2 : ∀ (x0 x1 x2 x3 : Bool) (w : World), (Instr.index 74 (.agg #[.bool x0, .bool x1, .bool x2, .bool x3]) (.int .i64 2)).run Try.prog w = .ok (.bool x2) w := fun _ _ _ _ _ => by kernel_rfl
                have i3 : ∀ (x0 x1 x2 x3 : Bool) (w : World), (Instr.index 74 (.agg #[.bool x0, .bool x1, .bool x2, .bool x3]) (.int .i64 3)).run Try.prog w = .ok (.bool x3) w := fun _ _ _ _ _ => by kernel_rfl
                go_wp2_with fail
                refine wp_loop_rounds 5 ?_
                rw [rounds_succ]
                go_wp2_with fail
                rw [rounds_succ]
                go_wp2_with fail
                rw [rounds_succ]
                go_wp2_with fail
                rw [rounds_succ]
                go_wp2_with fail
                rw [rounds_succ]
                go_wp2_with fail
                go_roundw
                case rel =>
                  refine ⟨m + 1, by omega, by go_num, ?_, _, ?_, rfl⟩
                  · refine ZR.out.keep (B' := w.heap.size + 1) ?_ (Nat.lt_succ_self _) ?_
                    · repeat (first | with_reducible exact Below.refl _ _ | (with_reducible refine Below.alloc ?_ ?_ _; rotate_left; (first | omega | (simp <;> omega))) | with_reducible refine Below.setCell ?_ hgb _)
                    · first | omega | (simp <;> omega)
                  · rw [HE.out]
                    exact own_congr ((((HO.out.stored 0 _).1.stored 3 _).1.alloc _).alloc _) (by simp [ints])
                case measure => simp [intOf]; omega
            · cases h3 : (s.x == 0)
              · have HE := Lib.hid (Step.out _ _ _ _ h0 h1 h2 h3)
                have i0 : ∀ (x0 x1 x2 x3 : Bool) (w : World), (Instr.index 74 (.agg #[.bool x0, .bool x1, .bool x2, .bool x3]) (.int .i64 0)).run Try.prog w = .ok (.bool x0) w := fun _ _ _ _ _ => by kernel_rfl
                have i1 : ∀ (x0 x1 x2 x3 : Bool) (w : World), (Instr.index 74 (.agg #[.bool x0, .bool x1, .bool x2, .bool x3]) (.int .i64 1)).run Try.prog w = .ok (.bool x1) w := fun _ _ _ _ _ => by kernel_rfl
                have i2 : ∀ (x0 x1 x2 x3 : Bool) (w : World), (Instr.index 74 (.agg #[.bool x0, .bool x1, .bool x2, .bool x3]) (.int .i64 2)).run Try.prog w = .ok (.bool x2) w := fun _ _ _ _ _ => by kernel_rfl
                have i3 : ∀ (x0 x1 x2 x3 : Bool) (w : World), (Instr.index 74 (.agg #[.bool x0, .bool x1, .bool x2, .bool x3]) (.int .i64 3)).run Try.prog w = .ok (.bool x3) w := fun _ _ _ _ _ => by kernel_rfl
                go_wp2_with fail
                refine wp_loop_rounds 5 ?_
                rw [rounds_succ]
                go_wp2_with fail
                rw [rounds_succ]
                go_wp2_with fail
                rw [rounds_succ]
                go_wp2_with fail
                rw [rounds_succ]
                go_wp2_with fail
                rw [rounds_succ]
                go_wp2_with fail
                go_roundw
                case rel =>
                  refine ⟨m + 1, by omega, by go_num, ?_, _, ?_, rfl⟩
                  · refine ZR.out.keep (B' := w.heap.size + 1) ?_ (Nat.lt_succ_self _) ?_
                    · repeat (first | with_reducible exact Below.refl _ _ | (with_reducible refine Below.alloc ?_ ?_ _; rotate_left; (first | omega | (simp <;> omega))) | with_reducible refine Below.setCell ?_ hgb _)
                    · first | omega | (simp <;> omega)
                  · rw [HE.out]
                    exact own_congr ((((HO.out.stored 0 _).1.stored 2 _).1.alloc _).alloc _) (by simp [ints])
                case measure => simp [intOf]; omega
              · have HE := Lib.hid (Step.out _ _ _ _ h0 h1 h2 h3)
                have i0 : ∀ (x0 x1 x2 x3 : Bool) (w : World), (Instr.index 74 (.agg #[.bool x0, .bool x1, .bool x2, .bool x3]) (.int .i64 0)).run Try.prog w = .ok (.bool x0) w := fun _ _ _ _ _ => by kernel_rfl
                have i1 : ∀ (x0 x1 x2 x3 : Bool) (w : World), (Instr.index 74 (.agg #[.bool x0, .bool x1, .bool x2, .bool x3]) (.int .i64 1)).run Try.prog w = .ok (.bool x1) w := fun _ _ _ _ _ => by kernel_rfl
                have i2 : ∀ (x0 x1 x2 x3 : Bool) (w : World), (Instr.index 74 (.agg #[.bool x0, .bool x1, .bool x2, .bool x3]) (.int .i64 2)).run Try.prog w = .ok (.bool x2) w := fun _ _ _ _ _ => by kernel_rfl
                have i3 : ∀ (x0 x1 x2 x3 : Bool) (w : World), (Instr.index 74 (.agg #[.bool x0, .bool x1, .bool x2, .bool x3]) (.int .i64 3)).run Try.prog w = .ok (.bool x3) w := fun _ _ _ _ _ => by kernel_rfl
                go_wp2_with fail
                refine wp_loop_rounds 5 ?_
                rw [rounds_succ]
                go_wp2_with fail
                rw [rounds_succ]
                go_wp2_with fail
                rw [rounds_succ]
                go_wp2_with fail
                rw [rounds_succ]
                go_wp2_with fail
                rw [rounds_succ]
                go_wp2_with fail
                go_roundw
                case rel =>
                  refine ⟨m + 1, by omega, by go_num, ?_, _, ?_, rfl⟩
                  · refine ZR.out.keep (B' := w.heap.size + 1) ?_ (Nat.lt_succ_self _) ?_
                    · repeat (first | with_reducible exact Below.refl _ _ | (with_reducible refine Below.alloc ?_ ?_ _; rotate_left; (first | omega | (simp <;> omega))) | with_reducible refine Below.setCell ?_ hgb _)
                    · first | omega | (simp <;> omega)
                  · rw [HE.out]
                    exact own_congr (((((HO.out.stored 0 _).1.stored 2 _).1.stored 3 _).1.alloc _).alloc _) (by simp [ints])
                case measure => simp [intOf]; omega
          · cases h2 : (s.y + s.d == H)
            · cases h3 : (s.x == 0)
              · have HE := Lib.hid (Step.out _ _ _ _ h0 h1 h2 h3)
                have i0 : ∀ (x0 x1 x2 x3 : Bool) (w : World), (Instr.index 74 (.agg #[.bool x0, .bool x1, .bool x2, .bool x3]) (.int .i64 0)).run Try.prog w = .ok (.bool x0) w := fun _ _ _ _ _ => by kernel_rfl
                have i1 : ∀ (x0 x1 x2 x3 : Bool) (w : World), (Instr.index 74 (.agg #[.bool x0, .bool x1, .bool x2, .bool x3]) (.int .i64 1)).run Try.prog w = .ok (.bool x1) w := fun _ _ _ _ _ => by kernel_rfl
                have i2 : ∀ (x0 x1 x2 x3 : Bool) (w : World), (Instr.index 74 (.agg #[.bool x0, .bool x1, .bool x2, .bool x3]) (.int .i64 2)).run Try.prog w = .ok (.bool x2) w := fun _ _ _ _ _ => by kernel_rfl
                have i3 : ∀ (x0 x1 x2 x3 : Bool) (w : World), (Instr.index 74 (.agg #[.bool x0, .bool x1, .bool x2, .bool x3]) (.int .i64 3)).run Try.prog w = .ok (.bool x3) w := fun _ _ _ _ _ => by kernel_rfl
                go_wp2_with fail
                refine wp_loop_rounds 5 ?_
                rw [rounds_succ]
                go_wp2_with fail
                rw [rounds_succ]
                go_wp2_with fail
                rw [rounds_succ]
                go_wp2_with fail
                rw [rounds_succ]
                go_wp2_with fail
                rw [rounds_succ]
                go_wp2_with fail
                go_roundw
                case rel =>
                  refine ⟨m + 1, by omega, by go_num, ?_, _, ?_, rfl⟩
                  · refine ZR.out.keep (B' := w.heap.size + 1) ?_ (Nat.lt_succ_self _) ?_
                    · repeat (first | with_reducible exact Below.refl _ _ | (with_reducible refine Below.alloc ?_ ?_ _; rotate_left; (first | omega | (simp <;> omega))) | with_reducible refine Below.setCell ?_ hgb _)
                    · first | omega | (simp <;> omega)
                  · rw [HE.out]
                    exact own_congr ((((HO.out.stored 0 _).1.stored 1 _).1.alloc _).alloc _) (by simp [ints])
                case measure => simp [intOf]; omega
              · have HE := Lib.hid (Step.out _ _ _ _ h0 h1 h2 h3)
                have i0 : ∀ (x0 x1 x2 x3 : Bool) (w : World), (Instr.index 74 (.agg #[.bool x0, .bool x1, .bool x2, .bool x3]) (.int .i64 0)).run Try.prog w = .ok (.bool x0) w := fun _ _ _ _ _ => by kernel_rfl
                have i1 : ∀ (x0 x1 x2 x3 : Bool) (w : World), (Instr.index 74 (.agg #[.bool x0, .bool x1, .bool x2, .bool x3]) (.int .i64 1)).run Try.prog w = .ok (.bool x1) w := fun _ _ _ _ _ => by kernel_rfl
                have i2 : ∀ (x0 x1 x2 x3 : Bool) (w : World), (Instr.index 74 (.agg #[.bool x0, .bool x1, .bool x2, .bool x3]) (.int .i64 2)).run Try.prog w = .ok (.bool x2) w := fun _ _ _ _ _ => by kernel_rfl
                have i3 : ∀ (x0 x1 x2 x3 : Bool) (w : World), (Instr.index 74 (.agg #[.bool x0, .bool x1, .bool x2, .bool x3]) (.int .i64 3)).run Try.prog w = .ok (.bool x3) w := fun _ _ _ _ _ => by kernel_rfl
                go_wp2_with fail
                refine wp_loop_rounds 5 ?_
                rw [rounds_succ]
                go_wp2_with fail
                rw [rounds_succ]
                go_wp2_with fail
                rw [rounds_succ]
                go_wp2_with fail
                rw [rounds_succ]
                go_wp2_with fail
                rw [rounds_succ]
                go_wp2_with fail
                go_roundw
                case rel =>
                  refine ⟨m + 1, by omega, by go_num, ?_, _, ?_, rfl⟩
                  · refine ZR.out.keep (B' := w.heap.size + 1) ?_ (Nat.lt_succ_self _) ?_
                    · repeat (first | with_reducible exact Below.refl _ _ | (with_reducible refine Below.alloc ?_ ?_ _; rotate_left; (first | omega | (simp <;> omega))) | with_reducible refine Below.setCell ?_ hgb _)
                    · first | omega | (simp <;> omega)
                  · rw [HE.out]
                    exact own_congr (((((HO.out.stored 0 _).1.stored 1 _).1.stored 3 _).1.alloc _).alloc _) (by simp [ints])
                case measure => simp [intOf]; omega
            · cases h3 : (s.x == 0)
              · have HE := Lib.hid (Step.out _ _ _ _ h0 h1 h2 h3)
                have i0 : ∀ (x0 x1 x2 x3 : Bool) (w : World), (Instr.index 74 (.agg #[.bool x0, .bool x1, .bool x2, .bool x3]) (.int .i64 0)).run Try.prog w = .ok (.bool x0) w := fun _ _ _ _ _ => by kernel_rfl
                have i1 : ∀ (x0 x1 x2 x3 : Bool) (w : World), (Instr.index 74 (.agg #[.bool x0, .bool x1, .bool x2, .bool x3]) (.int .i64 1)).run Try.prog w = .ok (.bool x1) w := fun _ _ _ _ _ => by kernel_rfl
                have i2 : ∀ (x0 x1 x2 x3 : Bool) (w : World), (Instr.index 74 (.agg #[.bool x0, .bool x1, .bool x2, .bool x3]) (.int .i64 2)).run Try.prog w = .ok (.bool x2) w := fun _ _ _ _ _ => by kernel_rfl
                have i3 : ∀ (x0 x1 x2 x3 : Bool) (w : World), (Instr.index 74 (.agg #[.bool x0, .bool x1, .bool x2, .bool x3]) (.int .i64 3)).run Try.prog w = .ok (.bool x3) w := fun _ _ _ _ _ => by kernel_rfl
                go_wp2_with fail
                refine wp_loop_rounds 5 ?_
                rw [rounds_succ]
                go_wp2_with fail
                rw [rounds_succ]
                go_wp2_with fail
                rw [rounds_succ]
                go_wp2_with fail
                rw [rounds_succ]
                go_wp2_with fail
                rw [rounds_succ]
                go_wp2_with fail
                go_roundw
                case rel =>
                  refine ⟨m + 1, by omega, by go_num, ?_, _, ?_, rfl⟩
                  · refine ZR.out.keep (B' := w.heap.size + 1) ?_ (Nat.lt_succ_self _) ?_
                    · repeat (first | with_reducible exact Below.refl _ _ | (with_reducible refine Below.alloc ?_ ?_ _; rotate_left; (first | omega | (simp <;> omega))) | with_reducible refine Below.setCell ?_ hgb _)
                    · first | omega | (simp <;> omega)
                  · rw [HE.out]
                    exact own_congr (((((HO.out.stored 0 _).1.stored 1 _).1.stored 2 _).1.alloc _).alloc _) (by simp [ints])
                case measure => simp [intOf]; omega
              · have HE := Lib.hid (Step.out _ _ _ _ h0 h1 h2 h3)
                have i0 : ∀ (x0 x1 x2 x3 : Bool) (w : World), (Instr.index 74 (.agg #[.bool x0, .bool x1, .bool x2, .bool x3]) (.int .i64 0)).run Try.prog w = .ok (.bool x0) w := fun _ _ _ _ _ => by kernel_rfl
                have i1 : ∀ (x0 x1 x2 x3 : Bool) (w : World), (Instr.index 74 (.agg #[.bool x0, .bool x1, .bool x2, .bool x3]) (.int .i64 1)).run Try.prog w = .ok (.bool x1) w := fun _ _ _ _ _ => by kernel_rfl
                have i2 : ∀ (x0 x1 x2 x3 : Bool) (w : World), (Instr.index 74 (.agg #[.bool x0, .bool x1, .bool x2, .bool x3]) (.int .i64 2)).run Try.prog w = .ok (.bool x2) w := fun _ _ _ _ _ => by kernel_rfl
                have i3 : ∀ (x0 x1 x2 x3 : Bool) (w : World), (Instr.index 74 (.agg #[.bool x0, .bool x1, .bool x2, .bool x3]) (.int .i64 3)).run Try.prog w = .ok (.bool x3) w := fun _ _ _ _ _ => by kernel_rfl
                go_wp2_with fail
                refine wp_loop_rounds 5 ?_
                rw [rounds_succ]
                go_wp2_with fail
                rw [rounds_succ]
                go_wp2_with fail
                rw [rounds_succ]
                go_wp2_with fail
                rw [rounds_succ]
                go_wp2_with fail
                rw [rounds_succ]
                go_wp2_with fail
                go_roundw
                case rel =>
                  refine ⟨m + 1, by omega, by go_num, ?_, _, ?_, rfl⟩
                  · refine ZR.out.keep (B' := w.heap.size + 1) ?_ (Nat.lt_succ_self _) ?_
                    · repeat (first | with_reducible exact Below.refl _ _ | (with_reducible refine Below.alloc ?_ ?_ _; rotate_left; (first | omega | (simp <;> omega))) | with_reducible refine Below.setCell ?_ hgb _)
                    · first | omega | (simp <;> omega)
                  · rw [HE.out]
                    exact own_congr ((((((HO.out.stored 0 _).1.stored 1 _).1.stored 2 _).1.stored 3 _).1.alloc _).alloc _) (by simp [ints])
                case measure => simp [intOf]; omega
      · obtain rfl : m = L.length := by omega
        subst hxs
        go_wp2_with fail
        go_ret2
        exact RetInts.mk rfl (own_base hown1 (Nat.le_succ _)) hbr
  · rw [ifGood_no hG, dc_false hG]
    go_enter Try.func20, Try.ntmps20
    go_wp2_with fail
    refine (callB_no (isCut_good W H A _ c L _ rfl hc ((hL.below (hb0 _)).mono (hb0 _).size) hwf) hG).mono ?_
    rintro e w1 ⟨rfl, hb1⟩
    go_wp2_with fail
    go_ret2
    exact RetInts.none_ ((hb0 _).trans (hb1.mono (hb0 _).size))
end Go.Proofs.Ytgghkimjminbaaa
