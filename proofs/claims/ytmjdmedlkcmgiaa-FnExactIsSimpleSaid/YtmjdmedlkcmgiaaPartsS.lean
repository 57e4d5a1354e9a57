/- Contract of the model's list of parts. -/
import Derived.Test.YtmjdmedlkcmgiaaPartsI
import Derived.Test.YtmjdmedlkcmgiaaSSL
set_option linter.all false
namespace Go.Proofs.Ytmjdmedlkcmgiaa
open Go.RowKit

theorem mul_small {X Y : Int} (x0 : -500 ≤ X ∧ X ≤ 500) (y0 : -500 ≤ Y ∧ Y ≤ 500) : -250000 ≤ X * Y ∧ X * Y ≤ 250000 := by
  rcases Int.le_total 0 X with h | h <;> rcases Int.le_total 0 Y with k | k
  · have a := Int.mul_le_mul x0.2 y0.2 k (by decide); have b := Int.mul_nonneg h k; omega
  · have a := Int.mul_le_mul x0.2 (show -Y ≤ 500 by omega) (by omega) (by decide); have b := Int.mul_nonneg h (show 0 ≤ -Y by omega); rw [Int.mul_neg] at a b; omega
  · have a := Int.mul_le_mul (show -X ≤ 500 by omega) y0.2 k (by decide); have b := Int.mul_nonneg (show 0 ≤ -X by omega) k; rw [Int.neg_mul] at a b; omega
  · have a := Int.mul_le_mul (show -X ≤ 500 by omega) (show -Y ≤ 500 by omega) (by omega) (by decide); have b := Int.mul_nonneg (show 0 ≤ -X by omega) (show 0 ≤ -Y by omega); rw [Int.neg_mul_neg] at a b; omega
set_option maxRecDepth 100000 in
set_option maxHeartbeats 16000000 in
theorem cuParts_any (W H : Int) (A : Option Addr) (n c : Nat) (L : List Sq) (w : World) (hl : L.length = n) (hc : n ≤ c) (hL : SqsAt w w.heap.size A L) (hG : Good W H L) :
    Calls Try.prog 87 #[.agg #[.int .i64 W, .int .i64 H, .slice A n c]] w (RetSSv w (allP W H L L.length)) := by
  subst hl
  obtain ⟨i0, hi, hz0, hz1, hz2⟩ := info_parts infoInt
  obtain ⟨j0, hj, hy0, hy1, hy2⟩ := info_parts infoSl
  have hg30 := hG.2.2.1.2
  have hW := hG.1
  have hH := hG.2.1
  have hall : ∀ s ∈ L, Within s W H := fun s hs => by
    obtain ⟨j, hj⟩ := List.mem_iff_getElem?.1 hs
    exact (hG.2.2.2.1 j s hj).1
  have hbd := fun f X Y => inA_bd (f := f) (X := X) (Y := Y) hall hW.2 hH.2
  have HBD := Lib.hid hbd
  have HA := Lib.hid hall
  clear hall hG hbd
  have Z0 : Box w.heap.size w (w.alloc (.cells #[.int .i64 W, .int .i64 H, .slice A L.length c] 31)) W H A c L := Box.start hL
  obtain ⟨W1, hW1⟩ : ∃ W1, W1 = w.alloc (.cells #[.int .i64 W, .int .i64 H, .slice A L.length c] 31) := ⟨_, rfl⟩
  have hz1' : W1.heap.size = w.heap.size + 1 := by rw [hW1]; simp
  rw [← hW1] at Z0
  obtain ⟨hB1, hs1, b0, b1, b2, hL1⟩ := id Z0
  go_enter Try.func87, Try.ntmps87
  go_wp2_with fail
  rw [← hW1]
  clear hW1
  go_wp2_with fail
  go_loopw [3, 17] (fun v i wr => ∃ (i' : Nat) (A' : Option Addr) (n' c' : Nat) (R : List Rw), i' ≤ L.length ∧ i = .int .i64 i' ∧ v = .slice A' n' c' ∧ lists R = allP W H L i' ∧ OwnSS wr (w.heap.size + 1) A' n' c' R ∧ Below (w.heap.size + 1) W1 wr ∧ w.heap.size + 1 ≤ wr.heap.size) (fun _ i _ => L.length - (intOf i).toNat)
  case atStart => exact ⟨0, none, 0, 0, [], Nat.zero_le _, rfl, rfl, rfl, OwnSS.nil _ _, Below.refl _ _, by omega⟩
  case round =>
    obtain ⟨i, A1, n1, c1, R1, hik, rfl, rfl, hM1, hS1, hbr, hzr⟩ := hrel
    have b2r := (hbr.cell (p := ⟨w.heap.size, 2, none⟩) (by simp)).trans b2
    have hzr' : w.heap.size < wr.heap.size := by omega
    by_cases hlt : i < L.length
    · obtain ⟨f, hf⟩ : ∃ s, L[i]? = some s := ⟨_, List.getElem?_eq_getElem hlt⟩
      obtain ⟨b, off, rfl, hb, d0, d1, d2⟩ := (hL1.below (hbr.mono (by omega))) i f hf
      have wf := HA.out f (List.mem_of_getElem? hf)
      unfold Within at wf
      have HF := Lib.hid hf
      have HM1 := Lib.hid hM1
      have k0 : (0 : Int) ≤ (i : Int) := by omega
      have k1 : (i : Int) < (L.length : Int) := by omega
      clear hf hM1
      go_wp2_with fail
      obtain ⟨W2, hW2⟩ : ∃ W2, W2 = wr.alloc (.cells #[.int .i64 f.x, .int .i64 f.y, .int .i64 f.d] 70) := ⟨_, rfl⟩
      have hb2 : Below wr.heap.size wr W2 := by rw [hW2]; exact (Below.refl _ _).alloc (Nat.le_refl _) _
      have hz2' : W2.heap.size = wr.heap.size + 1 := by rw [hW2]; simp
      have f0 : W2.cell? ⟨wr.heap.size, 0, none⟩ = some (.int .i64 f.x) := by rw [hW2]; simp
      have f1 : W2.cell? ⟨wr.heap.size, 1, none⟩ = some (.int .i64 f.y) := by rw [hW2]; simp
      rw [← hW2]
      clear hW2 d0 d1 d2
      obtain ⟨g, hg⟩ : ∃ g, g = wr.heap.size := ⟨_, rfl⟩
      rw [← hg] at f0 f1 hz2' hb2 ⊢
      have hgz : w.heap.size + 1 ≤ g := by omega
      have hB2 : Below (w.heap.size + 1) W1 W2 := hbr.trans (hb2.mono hgz)
      have hS2 := hS1.keep (hb2.mono (by omega))
      have hng1 : ∀ kk, Blk A1 n1 c1 R1 kk → kk ≠ g := fun kk hkk => by have := (hS1.lt hkk).2; omega
      have hgz2' : g < W2.heap.size := by omega
      have hzW2 : w.heap.size + 1 ≤ W2.heap.size := by omega
      clear hS1 b2r hg
      have hm1 := allP_len W H L i
      have hi30 : i * L.length ≤ 900 := Nat.le_trans (Nat.mul_le_mul (Nat.le_of_lt (Nat.lt_of_lt_of_le hlt hg30)) hg30) (by decide)
      go_loopw [3, 25] (fun v k wr => ∃ (k' : Nat) (A' : Option Addr) (n' c' : Nat) (R : List Rw), k' ≤ L.length ∧ k = .int .i64 k' ∧ v = .slice A' n' c' ∧ lists R = allP W H L i ++ rowP W H L i k' ∧ OwnSS wr (w.heap.size + 1) A' n' c' R ∧ Below (w.heap.size + 1) W1 wr ∧ w.heap.size + 1 ≤ wr.heap.size ∧ g < wr.heap.size ∧ wr.cell? ⟨g, 0, none⟩ = some (.int .i64 f.x) ∧ wr.cell? ⟨g, 1, none⟩ = some (.int .i64 f.y) ∧ ∀ kk, Blk A' n' c' R kk → kk ≠ g) (fun _ i _ => L.length - (intOf i).toNat)
      case atStart => exact ⟨0, A1, n1, c1, R1, Nat.zero_le _, rfl, rfl, by rw [rowP_zero, List.append_nil]; exact HM1.out, hS2, hB2, hzW2, hgz2', f0, f1, hng1⟩
      case round =>
        obtain ⟨k, A2, n2, c2, R2, hkk, rfl, rfl, hM2, hS2, hbr2, hzr2, hgz2, f0', f1', hng⟩ := hrel
        have hzr' : w.heap.size < wr.heap.size := by omega
        have b0r := (hbr2.cell (p := ⟨w.heap.size, 0, none⟩) (by simp)).trans b0
        have b1r := (hbr2.cell (p := ⟨w.heap.size, 1, none⟩) (by simp)).trans b1
        have b2r := (hbr2.cell (p := ⟨w.heap.size, 2, none⟩) (by simp)).trans b2
        by_cases hlt2 : k < L.length
        · obtain ⟨q, hq⟩ : ∃ s, L[k]? = some s := ⟨_, List.getElem?_eq_getElem hlt2⟩
          obtain ⟨b', off', he, hb', d0, d1, d2⟩ := (hL1.below (hbr2.mono (by omega))) k q hq
          simp only [Option.some.injEq, Addr.mk.injEq] at he
          obtain ⟨rfl, rfl, _⟩ := he
          have wq := HA.out q (List.mem_of_getElem? hq)
          unfold Within at wq
          have HQ := Lib.hid hq
          have HM2 := Lib.hid hM2
          have hm2 := rowP_len W H L i k
          have hn2 : n2 ≤ 930 := by
            have e := hS2.len
            rw [← lists_len, hM2, List.length_append] at e
            omega
          have q0 : (0 : Int) ≤ (k : Int) := by omega
          have q1 : (k : Int) < (L.length : Int) := by omega
          clear hq hM2
          go_wp2_with fail
          obtain ⟨W3, hW3⟩ : ∃ W3, W3 = wr.alloc (.cells #[.int .i64 q.x, .int .i64 q.y, .int .i64 q.d] 70) := ⟨_, rfl⟩
          have hb3 : Below wr.heap.size wr W3 := by rw [hW3]; exact (Below.refl _ _).alloc (Nat.le_refl _) _
          have hz3 : W3.heap.size = wr.heap.size + 1 := by rw [hW3]; simp
          have p0 : W3.cell? ⟨wr.heap.size, 0, none⟩ = some (.int .i64 q.x) := by rw [hW3]; simp
          have p1 : W3.cell? ⟨wr.heap.size, 1, none⟩ = some (.int .i64 q.y) := by rw [hW3]; simp
          have p2 : W3.cell? ⟨wr.heap.size, 2, none⟩ = some (.int .i64 q.d) := by rw [hW3]; simp
          rw [← hW3]
          clear hW3 d0 d1 d2
          have hS3 := hS2.keep hb3
          have hB3 := hbr2.trans (hb3.mono hzr2)
          have C : ∀ bb o v, bb < wr.heap.size + 1 → W3.cell? ⟨bb, o, none⟩ = some v → ∀ u : Later (wr.heap.size + 1) W3, u.val.cell? ⟨bb, o, none⟩ = some v := fun bb o v hb h u => (u.ok.cell (p := ⟨bb, o, none⟩) hb).trans h
          have F0 := C _ _ _ (by omega) ((hb3.cell (p := ⟨g, 0, none⟩) hgz2).trans f0')
          have F1 := C _ _ _ (by omega) ((hb3.cell (p := ⟨g, 1, none⟩) hgz2).trans f1')
          have P0 := C _ _ _ (by omega) p0
          have P1 := C _ _ _ (by omega) p1
          have P2 := C _ _ _ (by omega) p2
          have B0 := C _ _ _ (by omega) ((hb3.cell (p := ⟨w.heap.size, 0, none⟩) (show w.heap.size < wr.heap.size by omega)).trans b0r)
          have B1 := C _ _ _ (by omega) ((hb3.cell (p := ⟨w.heap.size, 1, none⟩) (show w.heap.size < wr.heap.size by omega)).trans b1r)
          have B2 := C _ _ _ (by omega) ((hb3.cell (p := ⟨w.heap.size, 2, none⟩) (show w.heap.size < wr.heap.size by omega)).trans b2r)
          obtain ⟨X, hX⟩ : ∃ X, wX f q = X := ⟨_, rfl⟩
          obtain ⟨Y, hYY⟩ : ∃ Y, hY f q = Y := ⟨_, rfl⟩
          have x0 : -500 ≤ X ∧ X ≤ 500 := by unfold wX at hX; omega
          have y0 : -500 ≤ Y ∧ Y ≤ 500 := by unfold hY at hYY; omega
          have e1 : IntKind.i64.wrap (q.x + q.d) = q.x + q.d := IntWalk.i64_in _ (by omega)
          have e2 : IntKind.i64.wrap (q.y + q.d) = q.y + q.d := IntWalk.i64_in _ (by omega)
          have e3 : q.x + q.d - f.x = X := hX
          have e4 : q.y + q.d - f.y = Y := hYY
          have e5 : IntKind.i64.wrap X = X := IntWalk.i64_in _ (by omega)
          have e6 : IntKind.i64.wrap Y = Y := IntWalk.i64_in _ (by omega)
          have HX := Lib.hid hX
          have HY := Lib.hid hYY
          clear hX hYY
          refine wp_region_sub (wr.heap.size + 1) (by kernel_rfl) (by kernel_rfl) ?_
          repeat (first | go_big_quiet_step (fail) | quiet_step (fail))
          refine wpQuiet_nil ?_
          rintro w4 ⟨uu, hu⟩; have hb4 := uu.ok
          have f0'' := F0 uu
          have f1'' := F1 uu
          have B0' := B0 uu
          have B1' := B1 uu
          have B2' := B2 uu
          rw [← hu] at hb4 f0'' f1'' B0' B1' B2'
          clear hu uu F0 F1 P0 P1 P2 B0 B1 B2 C e1 e2 e3 e4 e5 e6 f0' f1' b0r b1r b2r p0 p1 p2
          have hs4 := hb4.size
          have hzr4 : w.heap.size < w4.heap.size := by omega
          have hgz4 : g < w4.heap.size := by omega
          have hS4 := hS3.keep (hb4.mono (Nat.le_of_eq hz3))
          have hB4 := hB3.trans (hb4.mono (by omega))
          clear hS3 hB3 hb3 hb4
          have hM2' : allP W H L i ++ rowP W H L i (k + 1) = allP W H L i ++ rowP W H L i k ++ cellP W H L i k := by rw [rowP_succ, List.append_assoc]
          have HM3 := Lib.hid hM2'
          have hxy : -250000 ≤ X * Y ∧ X * Y ≤ 250000 := mul_small x0 y0
          clear hM2'
          by_cases hik' : i = k
          · have hno := cellP_no HF.out HQ.out (fun h : PartS W H L i k f q => h.1 hik')
            have e0 : ((i : Int) == (k : Int)) = true := by rw [hik']; exact beq_self_eq_true _
            have HNO := Lib.hid hno
            clear hik' hno
            go_wp2_with fail
            go_roundw
            case rel => exact ⟨k + 1, A2, n2, c2, R2, by omega, by go_num, rfl, by rw [HM3.out, HNO.out, List.append_nil]; exact HM2.out, hS4, hB4, by omega, by omega, f0'', f1'', hng⟩
            case measure => simp [intOf]; omega
          · have e0 : ((i : Int) == (k : Int)) = false := by simp; omega
            have HIK := Lib.hid hik'
            clear hik'
            by_cases hx : 0 < X
            · by_cases hy : 0 < Y
              · by_cases hxw : X = W
                · by_cases hyh : Y = H
                  · have HNO := Lib.hid (cellP_no HF.out HQ.out (fun h : PartS W H L i k f q => h.2.2.2.1 ⟨HX.out.trans hxw, HY.out.trans hyh⟩))
                    have e1 : (X == W) = true := by simpa using hxw
                    have e2 : (Y == H) = true := by simpa using hyh
                    clear hxw hyh
                    go_wp2_with fail
                    go_roundw
                    case rel => exact ⟨k + 1, A2, n2, c2, R2, by omega, by go_num, rfl, by rw [HM3.out, HNO.out, List.append_nil]; exact HM2.out, hS4, hB4, by omega, by omega, f0'', f1'', hng⟩
                    case measure => simp [intOf]; omega
                  · have HWH : Hid (¬ (X = W ∧ Y = H)) := Lib.hid (fun h => hyh h.2)
                    have e1 : (X == W) = true := by simpa using hxw
                    have e2 : (Y == H) = false := by simpa using hyh
                    clear hxw hyh
                    go_wp2_with fail
                    go_loopw [10, 11, 72] (fun ar v j wr => ∃ m : Nat, m ≤ L.length ∧ j = .int .i64 m ∧ ar = .int .i64 (inA f X Y L m) ∧ Below w4.heap.size w4 wr ∧ wr.ownsRow w4.heap.size 3 1 v (inL f X Y L m).length (ints (inL f X Y L m))) (fun _ _ j _ => L.length - (intOf j).toNat)
                    case atStart => exact ⟨0, Nat.zero_le _, rfl, by rw [inA_zero], Below.refl _ _, World.ownsRow_nil _ _ _ _⟩
                    case round =>
                      obtain ⟨m, hm, rfl, rfl, hbr5, hown⟩ := hrel
                      have hs5 := hbr5.size
                      have hgz5 : g < wr.heap.size := by omega
                      have n2' := (hbr5.cell (p := ⟨w.heap.size, 2, none⟩) hzr4).trans B2'
                      have hLk := inL_len f X Y L m
                      have g0 := (hbr5.cell (p := ⟨g, 0, none⟩) (show g < w4.heap.size by omega)).trans f0''
                      have g1 := (hbr5.cell (p := ⟨g, 1, none⟩) (show g < w4.heap.size by omega)).trans f1''
                      by_cases hlt3 : m < L.length
                      · obtain ⟨s, hs⟩ : ∃ s, L[m]? = some s := ⟨_, List.getElem?_eq_getElem hlt3⟩
                        obtain ⟨b3, off3, he3, hb3, c0, c1', c2'⟩ := ((hL1.below (hB4.mono (by omega))).below (hbr5.mono (by omega))) m s hs
                        simp only [Option.some.injEq, Addr.mk.injEq] at he3
                        obtain ⟨rfl, rfl, _⟩ := he3
                        have ws := HA.out s (List.mem_of_getElem? hs)
                        unfold Within at ws
                        have a0 := HBD.out f X Y m
                        have sd := sq_bound ws.1 (show s.d ≤ 500 by omega)
                        have hsuc := inL_succ f X Y L m s hs
                        have hsua := inA_succ f X Y L m s hs
                        have m0 : (0 : Int) ≤ (m : Int) := by omega
                        have m1 : (m : Int) < (L.length : Int) := by omega
                        obtain ⟨A6, c6, rfl⟩ := own_val hown
                        obtain ⟨IL, hIL⟩ : ∃ x, inL f X Y L m = x := ⟨_, rfl⟩
                        obtain ⟨IA, hIA⟩ : ∃ x, inA f X Y L m = x := ⟨_, rfl⟩
                        rw [hIL] at hsuc hLk hown ⊢
                        rw [hIA] at hsua a0 ⊢
                        have hB6 := fun o : Obj => hbr5.alloc hs5 o
                        have hO6 := fun o : Obj => hown.alloc o
                        clear hs hIL hIA hL hL1 Z0
                        by_cases h1 : f.x ≤ s.x
                        · by_cases h2 : f.y ≤ s.y
                          · by_cases h3 : s.x + s.d ≤ f.x + X
                            · by_cases h4 : s.y + s.d ≤ f.y + Y
                              · rw [if_pos (inR_iff.2 ⟨h1, h2, h3, h4⟩)] at hsuc hsua
                                have HSL := Lib.hid hsuc
                                have HSA := Lib.hid hsua
                                clear hsuc hsua
                                go_wp2_with (at_builtin; refine wpList_append_own _ rfl _ _ 42 rfl w4.heap.size 3 i0 (.int .i64 0) 1 8 Try.underlying42 hi hz0 hz1 hz2 rfl (by decide) _ _ _ rfl ((hown.alloc _).alloc _) ⟨wr.heap.size + 1, 0, none⟩ 1 1 [.int .i64 m] rfl rfl ?c1 ?c2 ?c3 ?c4 ?c5 ?_)
                                case c1 =>
                                  intro j u hj
                                  match j, hj with
                                  | 0, hj => simp at hj; subst hj; simp [Addr.add]
                                case c2 => intro u hu; simp at hu; subst hu; rfl
                                case c3 => unfold maxLen; omega
                                case c4 => omega
                                case c5 => simp <;> omega
                                intro v' w6 hown6 hgrow _
                                have hB7 : Below w4.heap.size w4 w6 := ((hB6 _).alloc (by simp; omega) _).grown hgrow (by simp; omega) (fun k hk => (hown.lt k hk).1)
                                clear hgrow
                                go_wp2_with fail
                                go_roundw
                                case rel => exact ⟨m + 1, by omega, by go_num, by rw [HSA.out], hB7, by rw [HSL.out, ints_app, List.length_append]; exact hown6⟩
                                case measure => simp [intOf]; omega
                              · rw [if_neg (fun h => by have := inR_iff.1 h; omega)] at hsuc hsua
                                have HSL := Lib.hid hsuc
                                have HSA := Lib.hid hsua
                                clear hsuc hsua
                                go_wp2_with fail
                                go_roundw
                                case rel => exact ⟨m + 1, by omega, by go_num, by rw [HSA.out]; simp, hB6 _, by rw [HSL.out, List.append_nil]; exact hO6 _⟩
                                case measure => simp [intOf]; omega
                            · rw [if_neg (fun h => by have := inR_iff.1 h; omega)] at hsuc hsua
                              have HSL := Lib.hid hsuc
                              have HSA := Lib.hid hsua
                              clear hsuc hsua
                              go_wp2_with fail
                              go_roundw
                              case rel => exact ⟨m + 1, by omega, by go_num, by rw [HSA.out]; simp, hB6 _, by rw [HSL.out, List.append_nil]; exact hO6 _⟩
                              case measure => simp [intOf]; omega
                          · rw [if_neg (fun h => by have := inR_iff.1 h; omega)] at hsuc hsua
                            have HSL := Lib.hid hsuc
                            have HSA := Lib.hid hsua
                            clear hsuc hsua
                            go_wp2_with fail
                            go_roundw
                            case rel => exact ⟨m + 1, by omega, by go_num, by rw [HSA.out]; simp, hB6 _, by rw [HSL.out, List.append_nil]; exact hO6 _⟩
                            case measure => simp [intOf]; omega
                        · rw [if_neg (fun h => by have := inR_iff.1 h; omega)] at hsuc hsua
                          have HSL := Lib.hid hsuc
                          have HSA := Lib.hid hsua
                          clear hsuc hsua
                          go_wp2_with fail
                          go_roundw
                          case rel => exact ⟨m + 1, by omega, by go_num, by rw [HSA.out]; simp, hB6 _, by rw [HSL.out, List.append_nil]; exact hO6 _⟩
                          case measure => simp [intOf]; omega
                      · obtain rfl : m = L.length := by omega
                        obtain ⟨A6, c6, rfl⟩ := own_val hown
                        have a0 := HBD.out f X Y L.length
                        obtain ⟨IL, hIL⟩ : ∃ x, inL f X Y L L.length = x := ⟨_, rfl⟩
                        obtain ⟨IA, hIA⟩ : ∃ x, inA f X Y L L.length = x := ⟨_, rfl⟩
                        have hpart : PartS W H L i k f q ↔ (IA = X * Y ∧ 1 < IL.length) := by
                          unfold PartS
                          rw [HX.out, HY.out, hIL, hIA]
                          exact ⟨fun h => ⟨h.2.2.2.2.1, h.2.2.2.2.2⟩, fun h => ⟨HIK.out, by omega, by omega, HWH.out, h.1, h.2⟩⟩
                        have hyes := fun h : IA = X * Y ∧ 1 < IL.length => cellP_yes HF.out HQ.out (hpart.2 h)
                        have hnot := fun h : ¬ (IA = X * Y ∧ 1 < IL.length) => cellP_no HF.out HQ.out (mt hpart.1 h)
                        rw [HX.out, HY.out, hIL] at hyes
                        rw [hIL] at hLk hown ⊢
                        rw [hIA] at a0 ⊢
                        have HYE := Lib.hid hyes
                        have HNO := Lib.hid hnot
                        have hS5 := hS4.keep hbr5
                        have hB5 := hB4.trans (hbr5.mono (show w.heap.size + 1 ≤ w4.heap.size by omega))
                        have hbig : ∀ kk, (Value.slice A6 IL.length c6).ownBlock = some kk → w4.heap.size ≤ kk := fun kk hkk => (hown.lt kk hkk).1
                        have hlow : ∀ kk, Blk A2 n2 c2 R2 kk → kk < w4.heap.size := fun kk hkk => (hS4.lt hkk).2
                        clear hyes hnot hpart hIL hIA hS2 hS4 hbr5 hL hL1 Z0
                        by_cases q1 : IA = X * Y
                        · by_cases q2 : 1 < IL.length
                          · have HC := Lib.hid (HYE.out ⟨q1, q2⟩)
                            have e9 : (IA == X * Y) = true := by simpa using q1
                            clear q1
                            have hbl : n2 + 1 ≤ maxLen := by unfold maxLen; omega
                            have hby : (n2 + 1) * 24 ≤ 140737488355328 := by omega
                            go_wp2_with (at_builtin; refine app_list rfl _ _ _ rfl (w.heap.size + 1) 42 j0 (.slice none 0 0) 1 24 Try.underlying26 hj hy0 hy1 hy2 rfl (by decide) (.slice A2 n2 c2) n2 _ rfl (hS5.outer.alloc _) (some ⟨wr.heap.size, 0, none⟩) 1 1 [.slice A6 IL.length c6] rfl rfl (.inr ⟨_, rfl, new1 _ _ _⟩) (one1 _ rfl) hbl hby (by simp; omega) ?_; intro v' w6 hown6 hgrow hv6)
                            have g0' := (hgrow.cell_far ⟨g, 0, none⟩ (by simp; omega) (fun e => hng g (.inl e.symm) rfl)).trans ((World.cell?_alloc_lt wr _ ⟨g, 0, none⟩ (show g < wr.heap.size by omega)).trans g0)
                            have g1' := (hgrow.cell_far ⟨g, 1, none⟩ (by simp; omega) (fun e => hng g (.inl e.symm) rfl)).trans ((World.cell?_alloc_lt wr _ ⟨g, 1, none⟩ (show g < wr.heap.size by omega)).trans g1)
                            have hB7 : Below (w.heap.size + 1) W1 w6 := (hB5.alloc (by omega) _).grown hgrow (by simp; omega) (fun k hk => (hS5.lt (.inl hk)).1)
                            have hs6 := hgrow.size
                            simp only [World.size_alloc] at hs6
                            obtain ⟨A7, c7, rfl, hS7⟩ := (hS5.keep ((Below.refl _ _).alloc (Nat.le_refl _) _)).push ⟨A6, c6, IL⟩ (own_base (hown.alloc _) (show w.heap.size + 1 ≤ w4.heap.size by omega)) (fun kk hkk hkb => by have := hbig kk hkk; have := hlow kk hkb; omega) hown6 hgrow hv6
                            have hng7 : ∀ kk, Blk A7 (n2 + 1) c7 (R2 ++ [⟨A6, c6, IL⟩]) kk → kk ≠ g := by
                              rintro kk (e | ⟨r, hr, e⟩)
                              · rcases hv6 with h | h
                                · rw [h] at e; exact hng kk (.inl e)
                                · rw [h] at e; cases e; simp; omega
                              · rcases List.mem_append.1 hr with hr | hr
                                · exact hng kk (.inr ⟨r, hr, e⟩)
                                · rw [List.mem_singleton.1 hr] at e
                                  have := hbig kk e
                                  omega
                            clear hgrow hown6 hv6 hS5
                            go_wp2_with fail
                            go_roundw
                            case rel => exact ⟨k + 1, A7, n2 + 1, c7, _, by omega, by go_num, rfl, by rw [HM3.out, HC.out, lists_app, HM2.out]; rfl, hS7, hB7, by omega, by omega, g0', g1', hng7⟩
                            case measure => simp [intOf]; omega
                          · have HC := Lib.hid (HNO.out (fun h => q2 h.2))
                            have e9 : (IA == X * Y) = true := by simpa using q1
                            clear q1
                            go_wp2_with fail
                            go_roundw
                            case rel => exact ⟨k + 1, A2, n2, c2, R2, by omega, by go_num, rfl, by rw [HM3.out, HC.out, List.append_nil]; exact HM2.out, hS5, hB5, by omega, by omega, g0, g1, hng⟩
                            case measure => simp [intOf]; omega
                        · have HC := Lib.hid (HNO.out (fun h => q1 h.1))
                          have e9 : (IA == X * Y) = false := by simpa using q1
                          clear q1
                          go_wp2_with fail
                          go_roundw
                          case rel => exact ⟨k + 1, A2, n2, c2, R2, by omega, by go_num, rfl, by rw [HM3.out, HC.out, List.append_nil]; exact HM2.out, hS5, hB5, by omega, by omega, g0, g1, hng⟩
                          case measure => simp [intOf]; omega
                · have HWH : Hid (¬ (X = W ∧ Y = H)) := Lib.hid (fun h => hxw h.1)
                  have e1 : (X == W) = false := by simpa using hxw
                  clear hxw
                  go_wp2_with fail
                  go_loopw [10, 11, 72] (fun ar v j wr => ∃ m : Nat, m ≤ L.length ∧ j = .int .i64 m ∧ ar = .int .i64 (inA f X Y L m) ∧ Below w4.heap.size w4 wr ∧ wr.ownsRow w4.heap.size 3 1 v (inL f X Y L m).length (ints (inL f X Y L m))) (fun _ _ j _ => L.length - (intOf j).toNat)
                  case atStart => exact ⟨0, Nat.zero_le _, rfl, by rw [inA_zero], Below.refl _ _, World.ownsRow_nil _ _ _ _⟩
                  case round =>
                    obtain ⟨m, hm, rfl, rfl, hbr5, hown⟩ := hrel
                    have hs5 := hbr5.size
                    have hgz5 : g < wr.heap.size := by omega
                    have n2' := (hbr5.cell (p := ⟨w.heap.size, 2, none⟩) hzr4).trans B2'
                    have hLk := inL_len f X Y L m
                    have g0 := (hbr5.cell (p := ⟨g, 0, none⟩) (show g < w4.heap.size by omega)).trans f0''
                    have g1 := (hbr5.cell (p := ⟨g, 1, none⟩) (show g < w4.heap.size by omega)).trans f1''
                    by_cases hlt3 : m < L.length
                    · obtain ⟨s, hs⟩ : ∃ s, L[m]? = some s := ⟨_, List.getElem?_eq_getElem hlt3⟩
                      obtain ⟨b3, off3, he3, hb3, c0, c1', c2'⟩ := ((hL1.below (hB4.mono (by omega))).below (hbr5.mono (by omega))) m s hs
                      simp only [Option.some.injEq, Addr.mk.injEq] at he3
                      obtain ⟨rfl, rfl, _⟩ := he3
                      have ws := HA.out s (List.mem_of_getElem? hs)
                      unfold Within at ws
                      have a0 := HBD.out f X Y m
                      have sd := sq_bound ws.1 (show s.d ≤ 500 by omega)
                      have hsuc := inL_succ f X Y L m s hs
                      have hsua := inA_succ f X Y L m s hs
                      have m0 : (0 : Int) ≤ (m : Int) := by omega
                      have m1 : (m : Int) < (L.length : Int) := by omega
                      obtain ⟨A6, c6, rfl⟩ := own_val hown
                      obtain ⟨IL, hIL⟩ : ∃ x, inL f X Y L m = x := ⟨_, rfl⟩
                      obtain ⟨IA, hIA⟩ : ∃ x, inA f X Y L m = x := ⟨_, rfl⟩
                      rw [hIL] at hsuc hLk hown ⊢
                      rw [hIA] at hsua a0 ⊢
                      have hB6 := fun o : Obj => hbr5.alloc hs5 o
                      have hO6 := fun o : Obj => hown.alloc o
                      clear hs hIL hIA hL hL1 Z0
                      by_cases h1 : f.x ≤ s.x
                      · by_cases h2 : f.y ≤ s.y
                        · by_cases h3 : s.x + s.d ≤ f.x + X
                          · by_cases h4 : s.y + s.d ≤ f.y + Y
                            · rw [if_pos (inR_iff.2 ⟨h1, h2, h3, h4⟩)] at hsuc hsua
                              have HSL := Lib.hid hsuc
                              have HSA := Lib.hid hsua
                              clear hsuc hsua
                              go_wp2_with (at_builtin; refine wpList_append_own _ rfl _ _ 42 rfl w4.heap.size 3 i0 (.int .i64 0) 1 8 Try.underlying42 hi hz0 hz1 hz2 rfl (by decide) _ _ _ rfl ((hown.alloc _).alloc _) ⟨wr.heap.size + 1, 0, none⟩ 1 1 [.int .i64 m] rfl rfl ?c1 ?c2 ?c3 ?c4 ?c5 ?_)
                              case c1 =>
                                intro j u hj
                                match j, hj with
                                | 0, hj => simp at hj; subst hj; simp [Addr.add]
                              case c2 => intro u hu; simp at hu; subst hu; rfl
                              case c3 => unfold maxLen; omega
                              case c4 => omega
                              case c5 => simp <;> omega
                              intro v' w6 hown6 hgrow _
                              have hB7 : Below w4.heap.size w4 w6 := ((hB6 _).alloc (by simp; omega) _).grown hgrow (by simp; omega) (fun k hk => (hown.lt k hk).1)
                              clear hgrow
                              go_wp2_with fail
                              go_roundw
                              case rel => exact ⟨m + 1, by omega, by go_num, by rw [HSA.out], hB7, by rw [HSL.out, ints_app, List.length_append]; exact hown6⟩
                              case measure => simp [intOf]; omega
                            · rw [if_neg (fun h => by have := inR_iff.1 h; omega)] at hsuc hsua
                              have HSL := Lib.hid hsuc
                              have HSA := Lib.hid hsua
                              clear hsuc hsua
                              go_wp2_with fail
                              go_roundw
                              case rel => exact ⟨m + 1, by omega, by go_num, by rw [HSA.out]; simp, hB6 _, by rw [HSL.out, List.append_nil]; exact hO6 _⟩
                              case measure => simp [intOf]; omega
                          · rw [if_neg (fun h => by have := inR_iff.1 h; omega)] at hsuc hsua
                            have HSL := Lib.hid hsuc
                            have HSA := Lib.hid hsua
                            clear hsuc hsua
                            go_wp2_with fail
                            go_roundw
                            case rel => exact ⟨m + 1, by omega, by go_num, by rw [HSA.out]; simp, hB6 _, by rw [HSL.out, List.append_nil]; exact hO6 _⟩
                            case measure => simp [intOf]; omega
                        · rw [if_neg (fun h => by have := inR_iff.1 h; omega)] at hsuc hsua
                          have HSL := Lib.hid hsuc
                          have HSA := Lib.hid hsua
                          clear hsuc hsua
                          go_wp2_with fail
                          go_roundw
                          case rel => exact ⟨m + 1, by omega, by go_num, by rw [HSA.out]; simp, hB6 _, by rw [HSL.out, List.append_nil]; exact hO6 _⟩
                          case measure => simp [intOf]; omega
                      · rw [if_neg (fun h => by have := inR_iff.1 h; omega)] at hsuc hsua
                        have HSL := Lib.hid hsuc
                        have HSA := Lib.hid hsua
                        clear hsuc hsua
                        go_wp2_with fail
                        go_roundw
                        case rel => exact ⟨m + 1, by omega, by go_num, by rw [HSA.out]; simp, hB6 _, by rw [HSL.out, List.append_nil]; exact hO6 _⟩
                        case measure => simp [intOf]; omega
                    · obtain rfl : m = L.length := by omega
                      obtain ⟨A6, c6, rfl⟩ := own_val hown
                      have a0 := HBD.out f X Y L.length
                      obtain ⟨IL, hIL⟩ : ∃ x, inL f X Y L L.length = x := ⟨_, rfl⟩
                      obtain ⟨IA, hIA⟩ : ∃ x, inA f X Y L L.length = x := ⟨_, rfl⟩
                      have hpart : PartS W H L i k f q ↔ (IA = X * Y ∧ 1 < IL.length) := by
                        unfold PartS
                        rw [HX.out, HY.out, hIL, hIA]
                        exact ⟨fun h => ⟨h.2.2.2.2.1, h.2.2.2.2.2⟩, fun h => ⟨HIK.out, by omega, by omega, HWH.out, h.1, h.2⟩⟩
                      have hyes := fun h : IA = X * Y ∧ 1 < IL.length => cellP_yes HF.out HQ.out (hpart.2 h)
                      have hnot := fun h : ¬ (IA = X * Y ∧ 1 < IL.length) => cellP_no HF.out HQ.out (mt hpart.1 h)
                      rw [HX.out, HY.out, hIL] at hyes
                      rw [hIL] at hLk hown ⊢
                      rw [hIA] at a0 ⊢
                      have HYE := Lib.hid hyes
                      have HNO := Lib.hid hnot
                      have hS5 := hS4.keep hbr5
                      have hB5 := hB4.trans (hbr5.mono (show w.heap.size + 1 ≤ w4.heap.size by omega))
                      have hbig : ∀ kk, (Value.slice A6 IL.length c6).ownBlock = some kk → w4.heap.size ≤ kk := fun kk hkk => (hown.lt kk hkk).1
                      have hlow : ∀ kk, Blk A2 n2 c2 R2 kk → kk < w4.heap.size := fun kk hkk => (hS4.lt hkk).2
                      clear hyes hnot hpart hIL hIA hS2 hS4 hbr5 hL hL1 Z0
                      by_cases q1 : IA = X * Y
                      · by_cases q2 : 1 < IL.length
                        · have HC := Lib.hid (HYE.out ⟨q1, q2⟩)
                          have e9 : (IA == X * Y) = true := by simpa using q1
                          clear q1
                          have hbl : n2 + 1 ≤ maxLen := by unfold maxLen; omega
                          have hby : (n2 + 1) * 24 ≤ 140737488355328 := by omega
                          go_wp2_with (at_builtin; refine app_list rfl _ _ _ rfl (w.heap.size + 1) 42 j0 (.slice none 0 0) 1 24 Try.underlying26 hj hy0 hy1 hy2 rfl (by decide) (.slice A2 n2 c2) n2 _ rfl (hS5.outer.alloc _) (some ⟨wr.heap.size, 0, none⟩) 1 1 [.slice A6 IL.length c6] rfl rfl (.inr ⟨_, rfl, new1 _ _ _⟩) (one1 _ rfl) hbl hby (by simp; omega) ?_; intro v' w6 hown6 hgrow hv6)
                          have g0' := (hgrow.cell_far ⟨g, 0, none⟩ (by simp; omega) (fun e => hng g (.inl e.symm) rfl)).trans ((World.cell?_alloc_lt wr _ ⟨g, 0, none⟩ (show g < wr.heap.size by omega)).trans g0)
                          have g1' := (hgrow.cell_far ⟨g, 1, none⟩ (by simp; omega) (fun e => hng g (.inl e.symm) rfl)).trans ((World.cell?_alloc_lt wr _ ⟨g, 1, none⟩ (show g < wr.heap.size by omega)).trans g1)
                          have hB7 : Below (w.heap.size + 1) W1 w6 := (hB5.alloc (by omega) _).grown hgrow (by simp; omega) (fun k hk => (hS5.lt (.inl hk)).1)
                          have hs6 := hgrow.size
                          simp only [World.size_alloc] at hs6
                          obtain ⟨A7, c7, rfl, hS7⟩ := (hS5.keep ((Below.refl _ _).alloc (Nat.le_refl _) _)).push ⟨A6, c6, IL⟩ (own_base (hown.alloc _) (show w.heap.size + 1 ≤ w4.heap.size by omega)) (fun kk hkk hkb => by have := hbig kk hkk; have := hlow kk hkb; omega) hown6 hgrow hv6
                          have hng7 : ∀ kk, Blk A7 (n2 + 1) c7 (R2 ++ [⟨A6, c6, IL⟩]) kk → kk ≠ g := by
                            rintro kk (e | ⟨r, hr, e⟩)
                            · rcases hv6 with h | h
                              · rw [h] at e; exact hng kk (.inl e)
                              · rw [h] at e; cases e; simp; omega
                            · rcases List.mem_append.1 hr with hr | hr
                              · exact hng kk (.inr ⟨r, hr, e⟩)
                              · rw [List.mem_singleton.1 hr] at e
                                have := hbig kk e
                                omega
                          clear hgrow hown6 hv6 hS5
                          go_wp2_with fail
                          go_roundw
                          case rel => exact ⟨k + 1, A7, n2 + 1, c7, _, by omega, by go_num, rfl, by rw [HM3.out, HC.out, lists_app, HM2.out]; rfl, hS7, hB7, by omega, by omega, g0', g1', hng7⟩
                          case measure => simp [intOf]; omega
                        · have HC := Lib.hid (HNO.out (fun h => q2 h.2))
                          have e9 : (IA == X * Y) = true := by simpa using q1
                          clear q1
                          go_wp2_with fail
                          go_roundw
                          case rel => exact ⟨k + 1, A2, n2, c2, R2, by omega, by go_num, rfl, by rw [HM3.out, HC.out, List.append_nil]; exact HM2.out, hS5, hB5, by omega, by omega, g0, g1, hng⟩
                          case measure => simp [intOf]; omega
                      · have HC := Lib.hid (HNO.out (fun h => q1 h.1))
                        have e9 : (IA == X * Y) = false := by simpa using q1
                        clear q1
                        go_wp2_with fail
                        go_roundw
                        case rel => exact ⟨k + 1, A2, n2, c2, R2, by omega, by go_num, rfl, by rw [HM3.out, HC.out, List.append_nil]; exact HM2.out, hS5, hB5, by omega, by omega, g0, g1, hng⟩
                        case measure => simp [intOf]; omega
              · have HNO := Lib.hid (cellP_no HF.out HQ.out (fun h : PartS W H L i k f q => by have := h.2.2.1; rw [HY.out] at this; omega))
                have hy' : Y ≤ 0 := by omega
                go_wp2_with fail
                go_roundw
                case rel => exact ⟨k + 1, A2, n2, c2, R2, by omega, by go_num, rfl, by rw [HM3.out, HNO.out, List.append_nil]; exact HM2.out, hS4, hB4, by omega, by omega, f0'', f1'', hng⟩
                case measure => simp [intOf]; omega
            · have HNO := Lib.hid (cellP_no HF.out HQ.out (fun h : PartS W H L i k f q => by have := h.2.1; rw [HX.out] at this; omega))
              have hx' : X ≤ 0 := by omega
              go_wp2_with fail
              go_roundw
              case rel => exact ⟨k + 1, A2, n2, c2, R2, by omega, by go_num, rfl, by rw [HM3.out, HNO.out, List.append_nil]; exact HM2.out, hS4, hB4, by omega, by omega, f0'', f1'', hng⟩
              case measure => simp [intOf]; omega
        · obtain rfl : k = L.length := by omega
          go_wp2_with fail
          go_roundw
          case rel => exact ⟨i + 1, A2, n2, c2, R2, by omega, by go_num, rfl, by rw [allP_succ]; exact hM2, hS2, hbr2, by omega⟩
          case measure => simp [intOf]; omega
    · obtain rfl : i = L.length := by omega
      go_wp2_with fail
      go_ret
      exact RetSSv.mk hM1 (hS1.based (by omega)) (hB1.trans (hbr.mono (by omega)))
end Go.Proofs.Ytmjdmedlkcmgiaa
