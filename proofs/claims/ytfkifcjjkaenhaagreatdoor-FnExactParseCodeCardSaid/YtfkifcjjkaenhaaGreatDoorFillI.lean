/- Contract of the program's CutOfSides. -/
import Derived.Test.YtfkifcjjkaenhaaGreatDoorFill
set_option linter.all false
namespace Go.Proofs.YtfkifcjjkaenhaaGreatDoor
open Go.RowKit

set_option maxRecDepth 100000 in
set_option maxHeartbeats 8000000 in
theorem fillI_any (W : Int) (A : Option Addr) (n c : Nat) (d : List Int) (w : World) (hl : d.length = n) (hn : n ≤ 1048576) (hd : IntsAt w w.heap.size A d) (hwf : ∀ s ∈ d, wfI s) :
    Calls Tryz.prog 46 #[.int .i64 W, .slice A n c] w (RetFill w W d) := by
  subst hl
  obtain ⟨W1, hW1⟩ : ∃ W1, W1 = w.alloc (.cells #[.int .i64 0, .int .i64 0, .slice none 0 0] 43) := ⟨_, rfl⟩
  have q1 : Bx w.heap.size W1 0 0 none 0 0 := by rw [hW1]; exact Bx.start _ _ _ _ _ _ _
  have qf : ∀ o, W1.frozen? ⟨w.heap.size, o, none⟩ = false := by intro o; rw [hW1]; exact World.frozen?_alloc_at _ _ _ _ rfl
  have hB1 : Below w.heap.size w W1 := by rw [hW1]; exact (Below.refl _ _).alloc (Nat.le_refl _) _
  have hz1 : W1.heap.size = w.heap.size + 1 := by rw [hW1]; simp
  by_cases hW : 1 ≤ W ∧ W ≤ 500
  · have d1 := Lib.hid (inB_iff.2 hW)
    by_cases h30 : d.length ≤ 30
    · have hd30 : decide ((30 : Int) < (d.length : Int)) = false := by rw [decide_eq_false_iff_not]; omega
      have hdN : decide (30 < d.length) = false := by rw [decide_eq_false_iff_not]; omega
      obtain ⟨m, rfl⟩ : ∃ m : Nat, W = (m : Int) := ⟨W.toNat, by omega⟩
      obtain ⟨i0, hi, hz0, hz1', hz2⟩ := info_parts infoInt
      obtain ⟨j0, hj, hy0, hy1, hy2⟩ := info_parts infoSq
      have hm500 : m ≤ 500 := by omega
      have hm1 : 1 ≤ m := by omega
      go_enter Tryz.func46, Tryz.ntmps46
      go_wp2_with fail
      rw [← hW1]
      refine (isLength_any _ _).mono ?_
      rw [d1.out]
      rintro e w' ⟨rfl, rfl⟩
      clear hW1
      go_wp2_with (at_make; refine wpList_make_full _ rfl _ _ 32 rfl (w.heap.size + 2) 3 i0 (.int .i64 0) 1 Tryz.underlying32 hi hz0 hz1' .i64 .i64 (m : Int) (m : Int) m rfl rfl rfl rfl (by rw [hz2]; omega) (by unfold maxLen; omega) (by simp [hz1]) ?_; intro w2 hown hgrow)
      obtain ⟨g, hg⟩ : ∃ g, g = w.heap.size + 1 + 1 := ⟨_, rfl⟩
      have hgz : (W1.alloc (.cells #[.int .i64 (m : Int), .int .i64 0, .slice none 0 0] 43)).heap.size = g := by simp [hz1, hg]
      have b1 : Bx (w.heap.size + 1) (W1.alloc (.cells #[.int .i64 (m : Int), .int .i64 0, .slice none 0 0] 43)) m 0 none 0 0 := by rw [← hz1]; exact Bx.start _ _ _ _ _ _ _
      have bf1 : ∀ o, (W1.alloc (.cells #[.int .i64 (m : Int), .int .i64 0, .slice none 0 0] 43)).frozen? ⟨w.heap.size + 1, o, none⟩ = false := by intro o; exact World.frozen?_alloc_at _ _ _ _ hz1.symm
      have hbx : Below W1.heap.size W1 (W1.alloc (.cells #[.int .i64 (m : Int), .int .i64 0, .slice none 0 0] 43)) := (Below.refl _ _).alloc (Nat.le_refl _) _
      have hnn : ∀ x, (none : Option Nat) ≠ some x := fun x e => by cases e
      have hM0 : FMem w w2 m g m (List.replicate (m : Int).toNat 0) none 0 0 [] := by
        rw [hgz] at hown
        have hl : (madeCells (Value.int .i64 0).cells (m * 1)).toList = ints (List.replicate (m : Int).toNat 0) := by
          rw [show (Value.int .i64 0).cells = #[.int .i64 0] from rfl, toList_madeCells_one]; simp [ints]
        rw [hl] at hown
        have qx := q1.next hbx
        refine ⟨qx.far hgrow (hnn _), fun o => ?_, b1.far hgrow (hnn _), fun o => ?_, hown, World.ownsRow_nil _ _ _ _, (hB1.trans (hbx.mono hB1.size)).grown hgrow (by simp; omega) (fun kk e => by cases e)⟩
        · exact (hgrow.frozen_far ⟨w.heap.size, o, none⟩ qx.lt (fun e => by cases e)).trans ((hbx.frozen (p := ⟨w.heap.size, o, none⟩) q1.lt).trans (qf o))
        · exact (hgrow.frozen_far ⟨w.heap.size + 1, o, none⟩ b1.lt (fun e => by cases e)).trans (bf1 o)
      rw [← hg]
      have HG := Lib.hid hg
      clear hown hgrow hgz b1 bf1 hbx q1 qf hB1 hz1 hg
      go_wp2_with fail
      go_loopw [28] (fun i wr => ∃ (k : Nat) (f : List Int) (L : List Sq) (A' : Option Addr) (c' : Nat), k ≤ d.length ∧ i = .int .i64 k ∧ FI m d k f L ∧ FMem w wr m g m f A' k c' L) (fun i _ => d.length - (intOf i).toNat)
      case atStart => exact ⟨0, _, [], none, 0, Nat.zero_le _, rfl, FI.start _ _, hM0⟩
      case round =>
        obtain ⟨k, f, L, A1, c1, hk, rfl, hI, hM⟩ := hrel
        have hfl : f.length = m := by have := hI.len; omega
        obtain ⟨x, y, hm⟩ := fm_ex (f := f) (by omega)
        have hx := (List.getElem?_eq_some_iff.1 hm.1).1
        have hy := hI.bd x y hm.1
        have HI := Lib.hid hI
        have HM := Lib.hid hm
        by_cases hlt : k < d.length
        · obtain ⟨s, hs⟩ : ∃ s, d[k]? = some s := ⟨_, List.getElem?_eq_getElem hlt⟩
          obtain ⟨b, off, rfl, hb, d0⟩ := hd k s hs
          have hws := hwf s (List.mem_of_getElem? hs)
          unfold wfI at hws
          have d0r : wr.cell? ⟨b, off + k, none⟩ = some (.int .i64 s) := (hM.below.cell (p := ⟨b, _, none⟩) hb).trans d0
          have k0 : (0 : Int) ≤ (k : Int) := by omega
          have k1 : (k : Int) < (d.length : Int) := by omega
          have HS := Lib.hid hs
          have hout := Lib.hid (fun hn => hI.out (by omega) hs hm hn)
          clear hs hI hm d0 hfl hwf
          go_wp2_with fail
          refine (minF_any wr hM.own HM.out (by omega)).mono ?_
          rintro e w' ⟨rfl, rfl⟩
          go_wp2_with fail
          refine (idxF_any w' hM.own HM.out (by omega)).mono ?_
          rintro e w'' ⟨rfl, rfl⟩
          clear hd
          go_wp2_with fail
          obtain ⟨h, hh⟩ : ∃ h, h = w''.heap.size := ⟨_, rfl⟩
          obtain ⟨w3, hw3⟩ : ∃ w3, w3 = w''.alloc (.cells #[.int .i64 (x : Int), .int .i64 y, .int .i64 s] 71) := ⟨_, rfl⟩
          have hb3 : Below w''.heap.size w'' w3 := by rw [hw3]; exact (Below.refl _ _).alloc (Nat.le_refl _) _
          have e0 : w3.cell? ⟨h, 0, none⟩ = some (.int .i64 (x : Int)) := by rw [hw3, hh]; simp
          have e1 : w3.cell? ⟨h, 1, none⟩ = some (.int .i64 y) := by rw [hw3, hh]; simp
          have e2 : w3.cell? ⟨h, 2, none⟩ = some (.int .i64 s) := by rw [hw3, hh]; simp
          have hh3 : h < w3.heap.size := by rw [hw3, hh]; simp
          have hgh : g < h := by rw [hh]; exact (own_lt hM.own).2
          have hM3 := hM.keep hb3
          rw [← hw3, ← hh]
          have HH := Lib.hid hh
          clear hw3 hh hb3 hM d0r
          by_cases hin : 1 ≤ s ∧ 0 ≤ (x : Int) ∧ (x : Int) ≤ (m : Int) - s ∧ 0 ≤ y ∧ y ≤ 500 - s
          · refine (callB_yes (isWithin_any (x : Int) y s (m : Int) 500 (by omega) (by omega) (by decide) (by decide) (by omega) _) hin).mono ?_
            rintro e w4 ⟨rfl, hb4⟩
            have hM4 := hM3.keep hb4
            have f0 := (hb4.cell (p := ⟨h, 0, none⟩) hh3).trans e0
            have f1 := (hb4.cell (p := ⟨h, 1, none⟩) hh3).trans e1
            have f2 := (hb4.cell (p := ⟨h, 2, none⟩) hh3).trans e2
            have hh4 := Nat.lt_of_lt_of_le hh3 hb4.size
            clear hM3 hb4 e0 e1 e2 hh3
            go_wp2_with fail
            go_loopw [12] (fun v wl => ∃ (j : Nat), v = .int .i64 (j : Int) ∧ x ≤ j ∧ j ≤ x + s.toNat ∧ FMem w wl m g m (liftF f x (j - x) s) A1 k c1 L ∧ h < wl.heap.size ∧ wl.cell? ⟨h, 0, none⟩ = some (.int .i64 (x : Int)) ∧ wl.cell? ⟨h, 1, none⟩ = some (.int .i64 y) ∧ wl.cell? ⟨h, 2, none⟩ = some (.int .i64 s)) (fun v _ => x + s.toNat - (intOf v).toNat)
            case atStart => exact ⟨x, rfl, Nat.le_refl _, Nat.le_add_right _ _, by rw [Nat.sub_self, liftF_zero]; exact hM4, hh4, f0, f1, f2⟩
            case round =>
              obtain ⟨j, rfl, hj1, hj2, hMj, hhl, f0, f1, f2⟩ := hrel
              by_cases hjl : j < x + s.toNat
              · obtain ⟨u, hu⟩ : ∃ u, f[j]? = some u := ⟨_, List.getElem?_eq_getElem (by have := HI.out.len; omega)⟩
                have hub := HI.out.bd j u hu
                obtain ⟨hu1, hu2⟩ := liftF_step (s := s) hj1 hu
                have jc : wr.cell? ⟨g, j, none⟩ = some (.int .i64 u) := by
                  rw [hMj.own.cellAt j (by omega)]
                  simp [ints, hu1]
                have jz := hMj.own.frozenAt j
                have hMs := hMj.set j (u + s)
                rw [← hu2] at hMs
                have R := (hMj.own.stored j (.int .i64 (u + s))).2
                have nh : (⟨h, 0, none⟩ : Addr).block ≠ g := by simp; omega
                have f0' := R.cell f0 (fun e => by simp at e; omega)
                have f1' := R.cell f1 (fun e => by simp at e; omega)
                have f2' := R.cell f2 (fun e => by simp at e; omega)
                have hMS := Lib.hid hMs
                have j0 : (0 : Int) ≤ (j : Int) := by omega
                have j1 : (j : Int) < (m : Int) := by omega
                have j2 : (j : Int) < (x : Int) + s := by omega
                have w1 : IntKind.i64.wrap ((x : Int) + s) = (x : Int) + s := IntWalk.i64_in _ (by omega)
                have w2 : IntKind.i64.wrap (u + s) = u + s := IntWalk.i64_in _ (by omega)
                have w3 : IntKind.i64.wrap ((j : Int) + 1) = (j : Int) + 1 := IntWalk.i64_in _ (by omega)
                clear hMj hu hu1 hu2 R hMs nh
                go_wp2_with fail
                go_roundw
                case rel => exact ⟨j + 1, by go_num, by omega, by omega, hMS.out, by simpa using hhl, f0', f1', f2'⟩
                case measure => simp [intOf]; omega
              · have hje : j - x = s.toNat := by omega
                rw [hje] at hMj
                have j2 : ¬ (j : Int) < (x : Int) + s := by omega
                have w1 : IntKind.i64.wrap ((x : Int) + s) = (x : Int) + s := IntWalk.i64_in _ (by omega)
                have hN := HI.out.next (by omega) HS.out HM.out hin.1 hin.2.2.1 hin.2.2.2.2
                have HNX := Lib.hid hN
                have hsq := hMj.sq
                obtain ⟨hbl, x0, x1, x2⟩ := id hMj.b
                have z2 := hMj.bf 2
                have hby1 : k + 1 ≤ maxLen := by unfold maxLen; omega
                have hby2 : (k + 1) * 24 ≤ 140737488355328 := by omega
                have hgw : g + 1 ≤ wr.heap.size := by have := own_lt hMj.own; omega
                have hnb : some (w.heap.size + 1) ≠ (Value.slice A1 k c1).ownBlock := fun e => by have := (hsq.lt _ e.symm).1; have := HG.out; omega
                have e0 : (⟨(x : Int), y, s⟩ : Sq).x = (x : Int) := rfl
                clear hN hje
                go_wp2_with (at_builtin; refine app_list rfl _ _ _ rfl (g + 1) 71 j0 (.agg #[.int .i64 0, .int .i64 0, .int .i64 0]) 3 24 Tryz.underlying41 hj hy0 hy1 hy2 rfl (by decide) (.slice A1 k c1) k _ rfl (hsq.alloc _) (some ⟨wr.heap.size, 0, none⟩) 1 1 [.int .i64 (x : Int), .int .i64 y, .int .i64 s] rfl rfl (.inr ⟨_, rfl, new3 _ _ _ _ _⟩) (one3 _ _ _) hby1 hby2 (by simp; omega) ?_; intro v' w6 hown6 hgrow hv6; obtain ⟨A6, c6, rfl⟩ := own_val hown6; have hbb : Below wr.heap.size wr (wr.alloc (.cells #[.int .i64 (x : Int), .int .i64 y, .int .i64 s] 71)) := (Below.refl _ _).alloc (Nat.le_refl _) _; have s2 := farC4 hbb hgrow (a := ⟨w.heap.size + 1, 2, none⟩) hbl hnb x2; have t2 := farF4 hbb hgrow (a := ⟨w.heap.size + 1, 2, none⟩) hbl hnb z2)
                have HP := hMj.push (q := ⟨(x : Int), y, s⟩) hbb hgrow hown6
                clear hgrow hown6 hv6 s2 t2 hbb
                go_roundw
                case rel => exact ⟨k + 1, _, _, A6, c6, by omega, by go_num, HNX.out, HP⟩
                case measure => simp [intOf]; omega
          · refine (callB_no (isWithin_any (x : Int) y s (m : Int) 500 (by omega) (by omega) (by decide) (by decide) (by omega) _) hin).mono ?_
            rintro e w4 ⟨rfl, hb4⟩
            have hM4 := hM3.keep hb4
            clear hM3 hb4 e0 e1 e2 hh3
            have t0 := hM4.qf 0
            have t1 := hM4.qf 1
            have t2 := hM4.qf 2
            obtain ⟨_, r0, r1, r2⟩ := id hM4.q
            have hB4 := hM4.below
            clear hM4
            go_wp2_with fail
            have hB := ((hB4.setCell (p := ⟨w.heap.size, 0, none⟩) (Nat.le_refl _) (.int .i64 0)).setCell (p := ⟨w.heap.size, 1, none⟩) (Nat.le_refl _) (.int .i64 0)).setCell (p := ⟨w.heap.size, 2, none⟩) (Nat.le_refl _) (.slice none 0 0)
            refine bodyPost_ret (v := .tuple #[.agg #[.int .i64 0, .int .i64 0, .slice none 0 0], .bool false]) (by simp [results, Tryz.results46, go_sem, r0, r1, r2]) rfl ?_
            exact RetFill.no (hout.out fun hn => hin (by omega)) hB
        · obtain rfl : k = d.length := by omega
          have hfin := Lib.hid (hI.fin (by omega) hm)
          clear hI hm hd hwf hy
          have hLl : L.length = d.length := HI.out.num
          have hwfs : ∀ q ∈ L, wfS q := fun q hq => by
            have := HI.out.fine q hq
            unfold Within at this
            unfold wfS wfI
            omega
          go_wp2_with fail
          refine (minF_any wr hM.own HM.out (by omega)).mono ?_
          rintro e w' ⟨rfl, rfl⟩
          obtain ⟨hbl, x0, x1, x2⟩ := id hM.b
          have z1 := hM.bf 1
          obtain ⟨q5, qf5, b5, o5, hB5⟩ := hM.high y
          have hsz : w'.heap.size = (w'.setCell ⟨w.heap.size + 1, 1, none⟩ (.int .i64 y)).heap.size := by simp
          have hcap := own_cap o5
          have hg5 := (own_lt hM.own).1
          clear hM
          go_wp2_with fail
          obtain ⟨w5, hw5⟩ : ∃ w5, w5 = w'.setCell ⟨w.heap.size + 1, 1, none⟩ (.int .i64 y) := ⟨_, rfl⟩
          rw [← hw5] at q5 b5 o5 hB5 hsz ⊢
          have qf5 : ∀ o, w5.frozen? ⟨w.heap.size, o, none⟩ = false := fun o => by rw [hw5]; exact qf5 o
          obtain ⟨_, y0, y1, y2⟩ := id b5
          clear hw5 x0 x1 x2 z1
          go_wp2_with fail
          by_cases hG : Good m y L
          · refine (callB_yes (isCut_good (m : Int) y A1 d.length c1 L w5 hLl hcap (sqs_of_own o5) hwfs) hG).mono ?_
            rintro e w6 ⟨rfl, hb6⟩
            have q6 := q5.next hb6
            have b6 := b5.next hb6
            have o6 := own_keep o5 hb6
            have t0 := (hb6.frozen (p := ⟨w.heap.size, 0, none⟩) q5.lt).trans (qf5 0)
            have t1 := (hb6.frozen (p := ⟨w.heap.size, 1, none⟩) q5.lt).trans (qf5 1)
            have t2 := (hb6.frozen (p := ⟨w.heap.size, 2, none⟩) q5.lt).trans (qf5 2)
            have hB6 := hB5.trans (hb6.mono hB5.size)
            obtain ⟨_, x0, x1, x2⟩ := id b6
            obtain ⟨_, r0, r1, r2⟩ := id q6
            have hgn : w.heap.size < g + 1 := by have := HG.out; omega
            clear b5 b6 q5 q6 qf5 o5 hb6 y0 y1 y2
            go_wp2_with fail
            have hB := ((hB6.setCell (p := ⟨w.heap.size, 0, none⟩) (Nat.le_refl _) (.int .i64 (m : Int))).setCell (p := ⟨w.heap.size, 1, none⟩) (Nat.le_refl _) (.int .i64 y)).setCell (p := ⟨w.heap.size, 2, none⟩) (Nat.le_refl _) (.slice A1 d.length c1)
            have R := ownsRow_setCell_below (ownsRow_setCell_below (ownsRow_setCell_below o6 (a := ⟨w.heap.size, 0, none⟩) hgn (.int .i64 (m : Int))) (a := ⟨w.heap.size, 1, none⟩) hgn (.int .i64 y)) (a := ⟨w.heap.size, 2, none⟩) hgn (.slice A1 d.length c1)
            refine bodyPost_ret (v := .tuple #[.agg #[.int .i64 (m : Int), .int .i64 y, .slice A1 d.length c1], .bool true]) (by simp [results, Tryz.results46, go_sem, r0, r1, r2]) rfl ?_
            exact RetFill.yes (hfin.out.1 hG) hLl.symm (own_base R (by omega)) hB
          · refine (callB_no (isCut_good (m : Int) y A1 d.length c1 L w5 hLl hcap (sqs_of_own o5) hwfs) hG).mono ?_
            rintro e w6 ⟨rfl, hb6⟩
            have q6 := q5.next hb6
            have t0 := (hb6.frozen (p := ⟨w.heap.size, 0, none⟩) q5.lt).trans (qf5 0)
            have t1 := (hb6.frozen (p := ⟨w.heap.size, 1, none⟩) q5.lt).trans (qf5 1)
            have t2 := (hb6.frozen (p := ⟨w.heap.size, 2, none⟩) q5.lt).trans (qf5 2)
            have hB6 := hB5.trans (hb6.mono hB5.size)
            obtain ⟨_, r0, r1, r2⟩ := id q6
            clear b5 q5 q6 qf5 o5 hb6 y0 y1 y2
            go_wp2_with fail
            have hB := ((hB6.setCell (p := ⟨w.heap.size, 0, none⟩) (Nat.le_refl _) (.int .i64 0)).setCell (p := ⟨w.heap.size, 1, none⟩) (Nat.le_refl _) (.int .i64 0)).setCell (p := ⟨w.heap.size, 2, none⟩) (Nat.le_refl _) (.slice none 0 0)
            refine bodyPost_ret (v := .tuple #[.agg #[.int .i64 0, .int .i64 0, .slice none 0 0], .bool false]) (by simp [results, Tryz.results46, go_sem, r0, r1, r2]) rfl ?_
            exact RetFill.no (hfin.out.2 hG) hB
    · have hno : fillR W d = (0, [], false) := fillR_pre fun h => h30 h.2.1.2
      have hd30 : decide ((30 : Int) < (d.length : Int)) = true := by rw [decide_eq_true_iff]; omega
      have hdN : 30 < d.length := by omega
      obtain ⟨_, r0, r1, r2⟩ := id q1
      have t0 := qf 0
      have t1 := qf 1
      have t2 := qf 2
      go_enter Tryz.func46, Tryz.ntmps46
      go_wp2_with fail
      rw [← hW1]
      refine (isLength_any _ _).mono ?_
      rw [d1.out]
      rintro e w' ⟨rfl, rfl⟩
      clear hW1
      go_wp2_with fail
      have hB := ((hB1.setCell (p := ⟨w.heap.size, 0, none⟩) (Nat.le_refl _) (.int .i64 0)).setCell (p := ⟨w.heap.size, 1, none⟩) (Nat.le_refl _) (.int .i64 0)).setCell (p := ⟨w.heap.size, 2, none⟩) (Nat.le_refl _) (.slice none 0 0)
      refine bodyPost_ret (v := .tuple #[.agg #[.int .i64 0, .int .i64 0, .slice none 0 0], .bool false]) (by simp [results, Tryz.results46, go_sem, r0, r1, r2]) rfl ?_
      exact RetFill.no hno hB
  · have hno : fillR W d = (0, [], false) := fillR_pre fun h => hW h.1
    have d1 : Hid (inB W 1 500 = false) := Lib.hid (by cases e : inB W 1 500 with | false => rfl | true => exact absurd (inB_iff.1 e) hW)
    obtain ⟨_, r0, r1, r2⟩ := id q1
    have t0 := qf 0
    have t1 := qf 1
    have t2 := qf 2
    go_enter Tryz.func46, Tryz.ntmps46
    go_wp2_with fail
    rw [← hW1]
    refine (isLength_any _ _).mono ?_
    rw [d1.out]
    rintro e w' ⟨rfl, rfl⟩
    clear hW1
    go_wp2_with fail
    have hB := ((hB1.setCell (p := ⟨w.heap.size, 0, none⟩) (Nat.le_refl _) (.int .i64 0)).setCell (p := ⟨w.heap.size, 1, none⟩) (Nat.le_refl _) (.int .i64 0)).setCell (p := ⟨w.heap.size, 2, none⟩) (Nat.le_refl _) (.slice none 0 0)
    refine bodyPost_ret (v := .tuple #[.agg #[.int .i64 0, .int .i64 0, .slice none 0 0], .bool false]) (by simp [results, Tryz.results46, go_sem, r0, r1, r2]) rfl ?_
    exact RetFill.no hno hB
end Go.Proofs.YtfkifcjjkaenhaaGreatDoor
