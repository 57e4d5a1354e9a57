/- FillI, CfG, CfI, CfS: texts in one. -/
import Derived.Test.YtohajmbgdapnhaaFill
import Derived.Test.YtohajmbgdapnhaaFillG
import Derived.Test.YtohajmbgdapnhaaMake
import Derived.Test.YtohajmbgdapnhaaJoinG
import Derived.Test.YtohajmbgdapnhaaSt
import Derived.Test.YtohajmbgdapnhaaExch
set_option linter.all false
namespace Go.Proofs.Ytohajmbgdapnhaa
open Go.RowKit

set_option maxRecDepth 100000 in
set_option maxHeartbeats 8000000 in
theorem fillI_any (W : Int) (A : Option Addr) (n c : Nat) (d : List Int) (w : World) (hl : d.length = n) (hn : n ≤ 1048576) (hd : IntsAt w w.heap.size A d) (hwf : ∀ s ∈ d, wfI s) :
    Calls Try.prog 95 #[.int .i64 W, .slice A n c] w (RetFill w W d) := by
  subst hl
  obtain ⟨W1, hW1⟩ : ∃ W1, W1 = w.alloc (.cells #[.int .i64 0, .int .i64 0, .slice none 0 0] 30) := ⟨_, rfl⟩
  have q1 : Bx w.heap.size W1 0 0 none 0 0 := by rw [hW1]; exact Bx.start _ _ _ _ _ _ _
  have qf : ∀ o, W1.frozen? ⟨w.heap.size, o, none⟩ = false := by intro o; rw [hW1]; exact World.frozen?_alloc_at _ _ _ _ rfl
  have hB1 : Below w.heap.size w W1 := by rw [hW1]; exact (Below.refl _ _).alloc (Nat.le_refl _) _
  have hz1 : W1.heap.size = w.heap.size + 1 := by rw [hW1]; simp
  by_cases hW : 1 ≤ W ∧ W ≤ 500
  · have d1 := Lib.hid (inB_iff.2 hW)
    by_cases h30 : d.length ≤ 30
    · have hd30 : decide ((30 : Int) < (d.length : Int)) = false := by rw [decide_eq_false_iff_not]; omega
      have hdN : decide (30 < d.length) = false := by rw [decide_eq_false_iff_not]; omega
      obtain ⟨m, rfl⟩ : ∃ m : Nat, W = (m : Int) := ⟨W.toNat, by omega⟩
      obtain ⟨i0, hi, hz0, hz1', hz2⟩ := info_parts infoInt
      obtain ⟨j0, hj, hy0, hy1, hy2⟩ := info_parts infoSq
      have hm500 : m ≤ 500 := by omega
      have hm1 : 1 ≤ m := by omega
      go_enter Try.func95, Try.ntmps95
      go_wp2_with fail
      rw [← hW1]
      refine (isLength_any _ _).mono ?_
      rw [d1.out]
      rintro e w' ⟨rfl, rfl⟩
      clear hW1
      go_wp2_with (at_make; refine wpList_make_full _ rfl _ _ 44 rfl (w.heap.size + 2) 3 i0 (.int .i64 0) 1 Try.underlying44 hi hz0 hz1' .i64 .i64 (m : Int) (m : Int) m rfl rfl rfl rfl (by rw [hz2]; omega) (by unfold maxLen; omega) (by simp [hz1]) ?_; intro w2 hown hgrow)
      obtain ⟨g, hg⟩ : ∃ g, g = w.heap.size + 1 + 1 := ⟨_, rfl⟩
      have hgz : (W1.alloc (.cells #[.int .i64 (m : Int), .int .i64 0, .slice none 0 0] 30)).heap.size = g := by simp [hz1, hg]
      have b1 : Bx (w.heap.size + 1) (W1.alloc (.cells #[.int .i64 (m : Int), .int .i64 0, .slice none 0 0] 30)) m 0 none 0 0 := by rw [← hz1]; exact Bx.start _ _ _ _ _ _ _
      have bf1 : ∀ o, (W1.alloc (.cells #[.int .i64 (m : Int), .int .i64 0, .slice none 0 0] 30)).frozen? ⟨w.heap.size + 1, o, none⟩ = false := by intro o; exact World.frozen?_alloc_at _ _ _ _ hz1.symm
      have hbx : Below W1.heap.size W1 (W1.alloc (.cells #[.int .i64 (m : Int), .int .i64 0, .slice none 0 0] 30)) := (Below.refl _ _).alloc (Nat.le_refl _) _
      have hnn : ∀ x, (none : Option Nat) ≠ some x := fun x e => by cases e
      have hM0 : FMem w w2 m g m (List.replicate (m : Int).toNat 0) none 0 0 [] := by
        rw [hgz] at hown
        have hl : (madeCells (Value.int .i64 0).cells (m * 1)).toList = ints (List.replicate (m : Int).toNat 0) := by
          rw [show (Value.int .i64 0).cells = #[.int .i64 0] from rfl, toList_madeCells_one]; simp [ints]
        rw [hl] at hown
        have qx := q1.next hbx
        refine ⟨qx.far hgrow (hnn _), fun o => ?_, b1.far hgrow (hnn _), fun o => ?_, hown, World.ownsRow_nil _ _ _ _, (hB1.trans (hbx.mono hB1.size)).grown hgrow (by simp; omega) (fun kk e => by cases e)⟩
        · exact (hgrow.frozen_far ⟨w.heap.size, o, none⟩ qx.lt (fun e => by cases e)).trans ((hbx.frozen (p := ⟨w.heap.size, o, none⟩) q1.lt).trans (qf o))
        · exact (hgrow.frozen_far ⟨w.heap.size + 1, o, none⟩ b1.lt (fun e => by cases e)).trans (bf1 o)
      rw [← hg]
      have HG := Lib.hid hg
      clear hown hgrow hgz b1 bf1 hbx q1 qf hB1 hz1 hg
      go_wp2_with fail
      go_loopw [28] (fun i wr => ∃ (k : Nat) (f : List Int) (L : List Sq) (A' : Option Addr) (c' : Nat), k ≤ d.length ∧ i = .int .i64 k ∧ FI m d k f L ∧ FMem w wr m g m f A' k c' L) (fun i _ => d.length - (intOf i).toNat)
      case atStart => exact ⟨0, _, [], none, 0, Nat.zero_le _, rfl, FI.start _ _, hM0⟩
      case round =>
        obtain ⟨k, f, L, A1, c1, hk, rfl, hI, hM⟩ := hrel
        have hfl : f.length = m := by have := hI.len; omega
        obtain ⟨x, y, hm⟩ := fm_ex (f := f) (by omega)
        have hx := (List.getElem?_eq_some_iff.1 hm.1).1
        have hy := hI.bd x y hm.1
        have HI := Lib.hid hI
        have HM := Lib.hid hm
        by_cases hlt : k < d.length
        · obtain ⟨s, hs⟩ : ∃ s, d[k]? = some s := ⟨_, List.getElem?_eq_getElem hlt⟩
          obtain ⟨b, off, rfl, hb, d0⟩ := hd k s hs
          have hws := hwf s (List.mem_of_getElem? hs)
          unfold wfI at hws
          have d0r : wr.cell? ⟨b, off + k, none⟩ = some (.int .i64 s) := (hM.below.cell (p := ⟨b, _, none⟩) hb).trans d0
          have k0 : (0 : Int) ≤ (k : Int) := by omega
          have k1 : (k : Int) < (d.length : Int) := by omega
          have HS := Lib.hid hs
          have hout := Lib.hid (fun hn => hI.out (by omega) hs hm hn)
          clear hs hI hm d0 hfl hwf
          go_wp2_with fail
          refine (minF_any wr hM.own HM.out (by omega)).mono ?_
          rintro e w' ⟨rfl, rfl⟩
          go_wp2_with fail
          refine (idxF_any w' hM.own HM.out (by omega)).mono ?_
          rintro e w'' ⟨rfl, rfl⟩
          clear hd
          go_wp2_with fail
          obtain ⟨h, hh⟩ : ∃ h, h = w''.heap.size := ⟨_, rfl⟩
          obtain ⟨w3, hw3⟩ : ∃ w3, w3 = w''.alloc (.cells #[.int .i64 (x : Int), .int .i64 y, .int .i64 s] 78) := ⟨_, rfl⟩
          have hb3 : Below w''.heap.size w'' w3 := by rw [hw3]; exact (Below.refl _ _).alloc (Nat.le_refl _) _
          have e0 : w3.cell? ⟨h, 0, none⟩ = some (.int .i64 (x : Int)) := by rw [hw3, hh]; simp
          have e1 : w3.cell? ⟨h, 1, none⟩ = some (.int .i64 y) := by rw [hw3, hh]; simp
          have e2 : w3.cell? ⟨h, 2, none⟩ = some (.int .i64 s) := by rw [hw3, hh]; simp
          have hh3 : h < w3.heap.size := by rw [hw3, hh]; simp
          have hgh : g < h := by rw [hh]; exact (own_lt hM.own).2
          have hM3 := hM.keep hb3
          rw [← hw3, ← hh]
          have HH := Lib.hid hh
          clear hw3 hh hb3 hM d0r
          by_cases hin : 1 ≤ s ∧ 0 ≤ (x : Int) ∧ (x : Int) ≤ (m : Int) - s ∧ 0 ≤ y ∧ y ≤ 500 - s
          · refine (callB_yes (isWithin_any (x : Int) y s (m : Int) 500 (by omega) (by omega) (by decide) (by decide) (by omega) _) hin).mono ?_
            rintro e w4 ⟨rfl, hb4⟩
            have hM4 := hM3.keep hb4
            have f0 := (hb4.cell (p := ⟨h, 0, none⟩) hh3).trans e0
            have f1 := (hb4.cell (p := ⟨h, 1, none⟩) hh3).trans e1
            have f2 := (hb4.cell (p := ⟨h, 2, none⟩) hh3).trans e2
            have hh4 := Nat.lt_of_lt_of_le hh3 hb4.size
            clear hM3 hb4 e0 e1 e2 hh3
            go_wp2_with fail
            go_loopw [12] (fun v wl => ∃ (j : Nat), v = .int .i64 (j : Int) ∧ x ≤ j ∧ j ≤ x + s.toNat ∧ FMem w wl m g m (liftF f x (j - x) s) A1 k c1 L ∧ h < wl.heap.size ∧ wl.cell? ⟨h, 0, none⟩ = some (.int .i64 (x : Int)) ∧ wl.cell? ⟨h, 1, none⟩ = some (.int .i64 y) ∧ wl.cell? ⟨h, 2, none⟩ = some (.int .i64 s)) (fun v _ => x + s.toNat - (intOf v).toNat)
            case atStart => exact ⟨x, rfl, Nat.le_refl _, Nat.le_add_right _ _, by rw [Nat.sub_self, liftF_zero]; exact hM4, hh4, f0, f1, f2⟩
            case round =>
              obtain ⟨j, rfl, hj1, hj2, hMj, hhl, f0, f1, f2⟩ := hrel
              by_cases hjl : j < x + s.toNat
              · obtain ⟨u, hu⟩ : ∃ u, f[j]? = some u := ⟨_, List.getElem?_eq_getElem (by have := HI.out.len; omega)⟩
                have hub := HI.out.bd j u hu
                obtain ⟨hu1, hu2⟩ := liftF_step (s := s) hj1 hu
                have jc : wr.cell? ⟨g, j, none⟩ = some (.int .i64 u) := by
                  rw [hMj.own.cellAt j (by omega)]
                  simp [ints, hu1]
                have jz := hMj.own.frozenAt j
                have hMs := hMj.set j (u + s)
                rw [← hu2] at hMs
                have R := (hMj.own.stored j (.int .i64 (u + s))).2
                have nh : (⟨h, 0, none⟩ : Addr).block ≠ g := by simp; omega
                have f0' := R.cell f0 (fun e => by simp at e; omega)
                have f1' := R.cell f1 (fun e => by simp at e; omega)
                have f2' := R.cell f2 (fun e => by simp at e; omega)
                have hMS := Lib.hid hMs
                have j0 : (0 : Int) ≤ (j : Int) := by omega
                have j1 : (j : Int) < (m : Int) := by omega
                have j2 : (j : Int) < (x : Int) + s := by omega
                have w1 : IntKind.i64.wrap ((x : Int) + s) = (x : Int) + s := IntWalk.i64_in _ (by omega)
                have w2 : IntKind.i64.wrap (u + s) = u + s := IntWalk.i64_in _ (by omega)
                have w3 : IntKind.i64.wrap ((j : Int) + 1) = (j : Int) + 1 := IntWalk.i64_in _ (by omega)
                clear hMj hu hu1 hu2 R hMs nh
                go_wp2_with fail
                go_roundw
                case rel => exact ⟨j + 1, by go_num, by omega, by omega, hMS.out, by simpa using hhl, f0', f1', f2'⟩
                case measure => simp [intOf]; omega
              · have hje : j - x = s.toNat := by omega
                rw [hje] at hMj
                have j2 : ¬ (j : Int) < (x : Int) + s := by omega
                have w1 : IntKind.i64.wrap ((x : Int) + s) = (x : Int) + s := IntWalk.i64_in _ (by omega)
                have hN := HI.out.next (by omega) HS.out HM.out hin.1 hin.2.2.1 hin.2.2.2.2
                have HNX := Lib.hid hN
                have hsq := hMj.sq
                obtain ⟨hbl, x0, x1, x2⟩ := id hMj.b
                have z2 := hMj.bf 2
                have hby1 : k + 1 ≤ maxLen := by unfold maxLen; omega
                have hby2 : (k + 1) * 24 ≤ 140737488355328 := by omega
                have hgw : g + 1 ≤ wr.heap.size := by have := own_lt hMj.own; omega
                have hnb : some (w.heap.size + 1) ≠ (Value.slice A1 k c1).ownBlock := fun e => by have := (hsq.lt _ e.symm).1; have := HG.out; omega
                have e0 : (⟨(x : Int), y, s⟩ : Sq).x = (x : Int) := rfl
                clear hN hje
                go_wp2_with (at_builtin; refine app_list rfl _ _ _ rfl (g + 1) 78 j0 (.agg #[.int .i64 0, .int .i64 0, .int .i64 0]) 3 24 Try.underlying28 hj hy0 hy1 hy2 rfl (by decide) (.slice A1 k c1) k _ rfl (hsq.alloc _) (some ⟨wr.heap.size, 0, none⟩) 1 1 [.int .i64 (x : Int), .int .i64 y, .int .i64 s] rfl rfl (.inr ⟨_, rfl, new3 _ _ _ _ _⟩) (one3 _ _ _) hby1 hby2 (by simp; omega) ?_; intro v' w6 hown6 hgrow hv6; obtain ⟨A6, c6, rfl⟩ := own_val hown6; have hbb : Below wr.heap.size wr (wr.alloc (.cells #[.int .i64 (x : Int), .int .i64 y, .int .i64 s] 78)) := (Below.refl _ _).alloc (Nat.le_refl _) _; have s2 := farC4 hbb hgrow (a := ⟨w.heap.size + 1, 2, none⟩) hbl hnb x2; have t2 := farF4 hbb hgrow (a := ⟨w.heap.size + 1, 2, none⟩) hbl hnb z2)
                have HP := hMj.push (q := ⟨(x : Int), y, s⟩) hbb hgrow hown6
                clear hgrow hown6 hv6 s2 t2 hbb
                go_roundw
                case rel => exact ⟨k + 1, _, _, A6, c6, by omega, by go_num, HNX.out, HP⟩
                case measure => simp [intOf]; omega
          · refine (callB_no (isWithin_any (x : Int) y s (m : Int) 500 (by omega) (by omega) (by decide) (by decide) (by omega) _) hin).mono ?_
            rintro e w4 ⟨rfl, hb4⟩
            have hM4 := hM3.keep hb4
            clear hM3 hb4 e0 e1 e2 hh3
            have t0 := hM4.qf 0
            have t1 := hM4.qf 1
            have t2 := hM4.qf 2
            obtain ⟨_, r0, r1, r2⟩ := id hM4.q
            have hB4 := hM4.below
            clear hM4
            go_wp2_with fail
            have hB := ((hB4.setCell (p := ⟨w.heap.size, 0, none⟩) (Nat.le_refl _) (.int .i64 0)).setCell (p := ⟨w.heap.size, 1, none⟩) (Nat.le_refl _) (.int .i64 0)).setCell (p := ⟨w.heap.size, 2, none⟩) (Nat.le_refl _) (.slice none 0 0)
            refine bodyPost_ret (v := .tuple #[.agg #[.int .i64 0, .int .i64 0, .slice none 0 0], .bool false]) (by simp [results, Try.results95, go_sem, r0, r1, r2]) rfl ?_
            exact RetFill.no (hout.out fun hn => hin (by omega)) hB
        · obtain rfl : k = d.length := by omega
          have hfin := Lib.hid (hI.fin (by omega) hm)
          clear hI hm hd hwf hy
          have hLl : L.length = d.length := HI.out.num
          have hwfs : ∀ q ∈ L, wfS q := fun q hq => by
            have := HI.out.fine q hq
            unfold Within at this
            unfold wfS wfI
            omega
          go_wp2_with fail
          refine (minF_any wr hM.own HM.out (by omega)).mono ?_
          rintro e w' ⟨rfl, rfl⟩
          obtain ⟨hbl, x0, x1, x2⟩ := id hM.b
          have z1 := hM.bf 1
          obtain ⟨q5, qf5, b5, o5, hB5⟩ := hM.high y
          have hsz : w'.heap.size = (w'.setCell ⟨w.heap.size + 1, 1, none⟩ (.int .i64 y)).heap.size := by simp
          have hcap := own_cap o5
          have hg5 := (own_lt hM.own).1
          clear hM
          go_wp2_with fail
          obtain ⟨w5, hw5⟩ : ∃ w5, w5 = w'.setCell ⟨w.heap.size + 1, 1, none⟩ (.int .i64 y) := ⟨_, rfl⟩
          rw [← hw5] at q5 b5 o5 hB5 hsz ⊢
          have qf5 : ∀ o, w5.frozen? ⟨w.heap.size, o, none⟩ = false := fun o => by rw [hw5]; exact qf5 o
          obtain ⟨_, y0, y1, y2⟩ := id b5
          clear hw5 x0 x1 x2 z1
          go_wp2_with fail
          by_cases hG : Good m y L
          · refine (callB_yes (isCut_good (m : Int) y A1 d.length c1 L w5 hLl hcap (sqs_of_own o5) hwfs) hG).mono ?_
            rintro e w6 ⟨rfl, hb6⟩
            have q6 := q5.next hb6
            have b6 := b5.next hb6
            have o6 := own_keep o5 hb6
            have t0 := (hb6.frozen (p := ⟨w.heap.size, 0, none⟩) q5.lt).trans (qf5 0)
            have t1 := (hb6.frozen (p := ⟨w.heap.size, 1, none⟩) q5.lt).trans (qf5 1)
            have t2 := (hb6.frozen (p := ⟨w.heap.size, 2, none⟩) q5.lt).trans (qf5 2)
            have hB6 := hB5.trans (hb6.mono hB5.size)
            obtain ⟨_, x0, x1, x2⟩ := id b6
            obtain ⟨_, r0, r1, r2⟩ := id q6
            have hgn : w.heap.size < g + 1 := by have := HG.out; omega
            clear b5 b6 q5 q6 qf5 o5 hb6 y0 y1 y2
            go_wp2_with fail
            have hB := ((hB6.setCell (p := ⟨w.heap.size, 0, none⟩) (Nat.le_refl _) (.int .i64 (m : Int))).setCell (p := ⟨w.heap.size, 1, none⟩) (Nat.le_refl _) (.int .i64 y)).setCell (p := ⟨w.heap.size, 2, none⟩) (Nat.le_refl _) (.slice A1 d.length c1)
            have R := ownsRow_setCell_below (ownsRow_setCell_below (ownsRow_setCell_below o6 (a := ⟨w.heap.size, 0, none⟩) hgn (.int .i64 (m : Int))) (a := ⟨w.heap.size, 1, none⟩) hgn (.int .i64 y)) (a := ⟨w.heap.size, 2, none⟩) hgn (.slice A1 d.length c1)
            refine bodyPost_ret (v := .tuple #[.agg #[.int .i64 (m : Int), .int .i64 y, .slice A1 d.length c1], .bool true]) (by simp [results, Try.results95, go_sem, r0, r1, r2]) rfl ?_
            exact RetFill.yes (hfin.out.1 hG) hLl.symm (own_base R (by omega)) hB
          · refine (callB_no (isCut_good (m : Int) y A1 d.length c1 L w5 hLl hcap (sqs_of_own o5) hwfs) hG).mono ?_
            rintro e w6 ⟨rfl, hb6⟩
            have q6 := q5.next hb6
            have t0 := (hb6.frozen (p := ⟨w.heap.size, 0, none⟩) q5.lt).trans (qf5 0)
            have t1 := (hb6.frozen (p := ⟨w.heap.size, 1, none⟩) q5.lt).trans (qf5 1)
            have t2 := (hb6.frozen (p := ⟨w.heap.size, 2, none⟩) q5.lt).trans (qf5 2)
            have hB6 := hB5.trans (hb6.mono hB5.size)
            obtain ⟨_, r0, r1, r2⟩ := id q6
            clear b5 q5 q6 qf5 o5 hb6 y0 y1 y2
            go_wp2_with fail
            have hB := ((hB6.setCell (p := ⟨w.heap.size, 0, none⟩) (Nat.le_refl _) (.int .i64 0)).setCell (p := ⟨w.heap.size, 1, none⟩) (Nat.le_refl _) (.int .i64 0)).setCell (p := ⟨w.heap.size, 2, none⟩) (Nat.le_refl _) (.slice none 0 0)
            refine bodyPost_ret (v := .tuple #[.agg #[.int .i64 0, .int .i64 0, .slice none 0 0], .bool false]) (by simp [results, Try.results95, go_sem, r0, r1, r2]) rfl ?_
            exact RetFill.no (hfin.out.2 hG) hB
    · have hno : fillR W d = (0, [], false) := fillR_pre fun h => h30 h.2.1.2
      have hd30 : decide ((30 : Int) < (d.length : Int)) = true := by rw [decide_eq_true_iff]; omega
      have hdN : 30 < d.length := by omega
      obtain ⟨_, r0, r1, r2⟩ := id q1
      have t0 := qf 0
      have t1 := qf 1
      have t2 := qf 2
      go_enter Try.func95, Try.ntmps95
      go_wp2_with fail
      rw [← hW1]
      refine (isLength_any _ _).mono ?_
      rw [d1.out]
      rintro e w' ⟨rfl, rfl⟩
      clear hW1
      go_wp2_with fail
      have hB := ((hB1.setCell (p := ⟨w.heap.size, 0, none⟩) (Nat.le_refl _) (.int .i64 0)).setCell (p := ⟨w.heap.size, 1, none⟩) (Nat.le_refl _) (.int .i64 0)).setCell (p := ⟨w.heap.size, 2, none⟩) (Nat.le_refl _) (.slice none 0 0)
      refine bodyPost_ret (v := .tuple #[.agg #[.int .i64 0, .int .i64 0, .slice none 0 0], .bool false]) (by simp [results, Try.results95, go_sem, r0, r1, r2]) rfl ?_
      exact RetFill.no hno hB
  · have hno : fillR W d = (0, [], false) := fillR_pre fun h => hW h.1
    have d1 : Hid (inB W 1 500 = false) := Lib.hid (by cases e : inB W 1 500 with | false => rfl | true => exact absurd (inB_iff.1 e) hW)
    obtain ⟨_, r0, r1, r2⟩ := id q1
    have t0 := qf 0
    have t1 := qf 1
    have t2 := qf 2
    go_enter Try.func95, Try.ntmps95
    go_wp2_with fail
    rw [← hW1]
    refine (isLength_any _ _).mono ?_
    rw [d1.out]
    rintro e w' ⟨rfl, rfl⟩
    clear hW1
    go_wp2_with fail
    have hB := ((hB1.setCell (p := ⟨w.heap.size, 0, none⟩) (Nat.le_refl _) (.int .i64 0)).setCell (p := ⟨w.heap.size, 1, none⟩) (Nat.le_refl _) (.int .i64 0)).setCell (p := ⟨w.heap.size, 2, none⟩) (Nat.le_refl _) (.slice none 0 0)
    refine bodyPost_ret (v := .tuple #[.agg #[.int .i64 0, .int .i64 0, .slice none 0 0], .bool false]) (by simp [results, Try.results95, go_sem, r0, r1, r2]) rfl ?_
    exact RetFill.no hno hB
end Go.Proofs.Ytohajmbgdapnhaa
namespace Go.Proofs.Ytohajmbgdapnhaa

theorem srt_sw_sw (L : List Sq) : (J.swL (srt (J.swL L))).Perm L := by
  have h1 : (J.swL (srt (J.swL L))).Perm (J.swL (J.swL L)) := (srt_perm _).map _
  have h2 : J.swL (J.swL L) = L := by
    unfold J.swL
    rw [List.map_map]
    conv => rhs; rw [← List.map_id L]
    exact List.map_congr_left fun q _ => by cases q; rfl
  rw [h2] at h1
  exact h1
/-- The squares lie in their order, before the next place to fill. -/
def FOrd (f : List Int) (L : List Sq) : Prop := L.Pairwise (fun a b => leB a b = true) ∧ ∀ q ∈ L, ∀ x y, FM f x y → Less q.x q.y x y
theorem FOrd.next {f : List Int} {L : List Sq} {x : Nat} {y s : Int} (h : FOrd f L) (hm : FM f x y) (hs : 1 ≤ s) (hl : Lvl f x s.toNat y) : FOrd (liftF f x s.toNat s) (L ++ [⟨x, y, s⟩]) := by
  obtain ⟨m0, m1, m2⟩ := id hm
  have key : ∀ (x' : Nat) y', FM (liftF f x s.toNat s) x' y' → Less x y x' y' := by
    intro x' y' hm'
    have h0 := hm'.1
    rw [liftF_get] at h0
    cases hi : f[x']? with
    | none => rw [hi] at h0; cases h0
    | some u =>
      rw [hi] at h0
      simp only [Option.map_some, Option.some.injEq] at h0
      have hu := m1 x' u hi
      unfold Less
      by_cases hc : x ≤ x' ∧ x' < x + s.toNat
      · rw [if_pos hc] at h0; left; omega
      · rw [if_neg hc] at h0
        subst h0
        by_cases e : y < u
        · left; exact e
        · right
          refine ⟨by omega, ?_⟩
          have : ¬ x' < x := fun hx => by have := m2 x' u hx hi; omega
          omega
  refine ⟨?_, fun q hq x' y' hm' => ?_⟩
  · rw [List.pairwise_append]
    refine ⟨h.1, by simp, fun a ha b hb => ?_⟩
    simp only [List.mem_singleton] at hb
    subst hb
    have := h.2 a ha x y hm
    unfold leB
    have h3 : ¬ lt2 (⟨x, y, s⟩ : Sq) a := by unfold lt2; unfold Less at *; simp only; omega
    simp [h3]
  · have := key x' y' hm'
    rcases List.mem_append.1 hq with hq | hq
    · have h2 := h.2 q hq x y hm
      unfold Less at *
      omega
    · simp only [List.mem_singleton] at hq
      subst hq
      exact this
theorem runF_ord {W : Nat} {d : List Int} {f : List Int} {L : List Sq} {st' : List Int × List Sq} (h : runF W d (f, L) = some st') (hl : f.length = W) (hst : StF f L) (hW : 0 < W) (ho : FOrd f L) : FOrd st'.1 st'.2 := by
  induction d generalizing f L with
  | nil => simp only [runF, Option.some.injEq] at h; subst h; exact ho
  | cons s d ih =>
    simp only [runF] at h
    cases hp : putF W (f, L) s with
    | none => rw [hp] at h; cases h
    | some st1 =>
      rw [hp] at h
      obtain ⟨a, b, _⟩ := putF_some hp hl hst hW
      obtain ⟨f1, L1⟩ := st1
      refine ih h a b ?_
      obtain ⟨x, y, hm⟩ := fm_ex (f := f) (by omega)
      by_cases hc : 1 ≤ s ∧ x + s.toNat ≤ W ∧ Lvl f x s.toNat y
      · rw [putF_yes hm hc.1 hc.2.1 hc.2.2] at hp
        cases hp
        exact ho.next hm hc.1 hc.2.2
      · rw [putF_no hm hc] at hp; cases hp
theorem good_back {W : Nat} {d : List Int} {f : List Int} {L : List Sq} {y : Int} (h : runF W d (st0 W) = some (f, L)) (hW : 0 < W) (hG : Good y W (srt (J.swL L))) : Good W y L := by
  have ho := runF_ord h (by simp) (StF.start W) hW ⟨List.Pairwise.nil, fun q hq => by cases hq⟩
  exact (good_sort (srt_sw_sw L).symm ho.1).1.2 (J.good_sw hG)
noncomputable def stripR (H : Int) (d : List Int) : Int × Int × List Sq × Bool :=
  @ite _ ((fillR H d).2.2 = true ∧ Strip (fillR H d).1 H (srt (J.swL (fillR H d).2.1))) (Classical.propDecidable _) ((fillR H d).1, H, srt (J.swL (fillR H d).2.1), true) (0, 0, [], false)
theorem stripR_yes {H y : Int} {d : List Int} {L : List Sq} (h : fillR H d = (y, L, true)) (hS : Strip y H (srt (J.swL L))) : stripR H d = (y, H, srt (J.swL L), true) := by
  unfold stripR
  rw [h]
  exact if_pos ⟨rfl, hS⟩
theorem stripR_no {H : Int} {d : List Int} (h : ¬ ((fillR H d).2.2 = true ∧ Strip (fillR H d).1 H (srt (J.swL (fillR H d).2.1)))) : stripR H d = (0, 0, [], false) := by
  unfold stripR
  exact if_neg h
theorem stripR_none {H : Int} {d : List Int} (h : fillR H d = (0, [], false)) : stripR H d = (0, 0, [], false) := stripR_no fun k => by rw [h] at k; cases k.1
theorem stripR_long {H y : Int} {d : List Int} {L : List Sq} (h : fillR H d = (y, L, true)) (hS : ¬ Strip y H (srt (J.swL L))) : stripR H d = (0, 0, [], false) := stripR_no fun k => by rw [h] at k; exact hS k.2
theorem fillR_good {H y : Int} {d : List Int} {L : List Sq} (h : fillR H d = (y, L, true)) : Good H y L := by
  unfold fillR at h
  cases hr : runF H.toNat d (st0 H.toNat) with
  | none => rw [hr] at h; cases h
  | some st =>
    obtain ⟨f, M⟩ := st
    rw [hr] at h
    simp only at h
    by_cases hG : Good H (f.headD 0) M
    · rw [if_pos hG] at h; cases h; exact hG
    · rw [if_neg hG] at h; cases h
theorem fillR_or (H : Int) (d : List Int) : fillR H d = (0, [], false) ∨ ∃ y L, fillR H d = (y, L, true) := by
  unfold fillR
  cases hr : runF H.toNat d (st0 H.toNat) with
  | none => exact .inl rfl
  | some st =>
    obtain ⟨f, M⟩ := st
    by_cases hG : Good H (f.headD 0) M
    · exact .inr ⟨_, _, if_pos hG⟩
    · exact .inl (if_neg hG)
theorem stripR_len (H : Int) (d : List Int) : (stripR H d).2.2.1.length ≤ 1048576 := by
  by_cases h : (fillR H d).2.2 = true ∧ Strip (fillR H d).1 H (srt (J.swL (fillR H d).2.1))
  · unfold stripR
    rw [if_pos h]
    have := h.2.1.2.2.1.2
    simp only
    omega
  · rw [stripR_no h]; decide
theorem stripR_high {H : Int} {d : List Int} (h : ¬ (1 ≤ H ∧ H ≤ 4)) : stripR H d = (0, 0, [], false) := stripR_no fun k => h ⟨k.2.1.2.1.1, k.2.2.1⟩
/-- Where the model stands after k squares. -/
structure FK (m : Nat) (d : List Int) (k : Nat) (f : List Int) (L : List Sq) : Prop where
  len : f.length = m
  bd : ∀ (i : Nat) v, f[i]? = some v → 0 ≤ v ∧ v ≤ 500 * k
  sd : L.map (·.d) = d.take k
  way : (∀ s ∈ d, s ≤ 500) → runF m (d.take k) (st0 m) = some (f, L)
theorem FK.start (m : Nat) (d : List Int) : FK m d 0 (List.replicate m 0) [] := by
  refine ⟨by simp, fun i v h => ?_, rfl, fun _ => rfl⟩
  rw [List.getElem?_replicate] at h; split at h
  · cases h; omega
  · cases h
theorem FK.num {m : Nat} {d : List Int} {k : Nat} {f : List Int} {L : List Sq} (h : FK m d k f L) (hk : k ≤ d.length) : L.length = k := by
  have := congrArg List.length h.sd
  rw [List.length_map, List.length_take] at this
  omega
theorem FK.next {m : Nat} {d : List Int} {k : Nat} {f : List Int} {L : List Sq} {s y : Int} {x : Nat} (h : FK m d k f L) (hk : d[k]? = some s) (hm : FM f x y) (h1 : 1 ≤ s) (h4 : s ≤ 500) (h2 : x + s.toNat ≤ m) (h3 : Lvl f x s.toNat y) :
    FK m d (k + 1) (liftF f x s.toNat s) (L ++ [⟨x, y, s⟩]) := by
  refine ⟨by rw [liftF_len]; exact h.len, fun i v hv => ?_, ?_, fun hal => ?_⟩
  · rw [liftF_get] at hv
    cases hi : f[i]? with
    | none => rw [hi] at hv; cases hv
    | some u =>
      rw [hi] at hv
      simp only [Option.map_some, Option.some.injEq] at hv
      have := h.bd i u hi
      split at hv <;> omega
  · rw [List.map_append, h.sd, List.take_add_one, hk]; rfl
  · rw [runF_snoc hk (h.way hal), putF_yes hm h1 h2 h3]
/-- A side so great that the row's end wraps. -/
theorem FK.wild {m : Nat} {d : List Int} {k : Nat} {f : List Int} {L : List Sq} {s y : Int} {x : Nat} (h : FK m d k f L) (hk : d[k]? = some s) (hs : 500 < s) : FK m d (k + 1) f (L ++ [⟨x, y, s⟩]) := by
  refine ⟨h.len, fun i v hv => ?_, ?_, fun hal => ?_⟩
  · have := h.bd i v hv; omega
  · rw [List.map_append, h.sd, List.take_add_one, hk]; rfl
  · have := hal s (List.mem_of_getElem? hk); omega
theorem FK.out {m : Nat} {d : List Int} {k : Nat} {f : List Int} {L : List Sq} {s y : Int} {x : Nat} (h : FK m d k f L) (hk : d[k]? = some s) (hm : FM f x y) (hn : ¬ (1 ≤ s ∧ x + s.toNat ≤ m ∧ Lvl f x s.toNat y)) : stripR m d = (0, 0, [], false) := by
  apply stripR_none
  by_cases hal : ∀ s ∈ d, s ≤ 500
  · exact fillR_stop hk (h.way hal) hm hn
  · exact fillR_pre fun k => hal fun s hs => (k.2.2 s hs).2
theorem FK.fin {m : Nat} {d : List Int} {f : List Int} {L : List Sq} (h : FK m d d.length f L) (h1 : 1 ≤ m) :
    (∀ hS : Strip (f.headD 0) m (srt (J.swL L)), stripR m d = (f.headD 0, (m : Int), srt (J.swL L), true)) ∧ (¬ Strip (f.headD 0) m (srt (J.swL L)) → stripR m d = (0, 0, [], false)) := by
  have hsd := h.sd
  rw [List.take_of_length_le (Nat.le_refl _)] at hsd
  by_cases hal : ∀ s ∈ d, s ≤ 500
  · have hr := h.way hal
    rw [List.take_of_length_le (Nat.le_refl _)] at hr
    refine ⟨fun hS => ?_, fun hS => ?_⟩
    · exact stripR_yes (fillR_yes hr (good_back hr (by omega) hS.1)) hS
    · by_cases hG : Good m (f.headD 0) L
      · exact stripR_long (fillR_yes hr hG) hS
      · exact stripR_none (fillR_no hr hG)
  · have hno : fillR m d = (0, [], false) := fillR_pre fun k => hal fun s hs => (k.2.2 s hs).2
    refine ⟨fun hS => ?_, fun _ => stripR_none hno⟩
    exfalso
    refine hal fun s hs => ?_
    rw [← hsd] at hs
    obtain ⟨q, hq, rfl⟩ := List.mem_map.1 hs
    have hq2 : J.swS q ∈ srt (J.swL L) := (srt_perm _).mem_iff.2 (List.mem_map_of_mem hq)
    exact (goodF_sides hS.1 _ hq2).2
end Go.Proofs.Ytohajmbgdapnhaa
namespace Go.Proofs.Ytohajmbgdapnhaa
open Go.RowKit

def RetStrip (w : World) (H : Int) (d : List Int) (e : Ending) (w' : World) : Prop := RetCut w (stripR H d).1 (stripR H d).2.1 (stripR H d).2.2.1 (stripR H d).2.2.2 e w'
theorem RetStrip.no {w w' : World} {H : Int} {d : List Int} (h : stripR H d = (0, 0, [], false)) (hb : Below w.heap.size w w') : RetStrip w H d (.returned (.tuple #[.agg #[.int .i64 0, .int .i64 0, .slice none 0 0], .bool false])) w' := by
  unfold RetStrip
  rw [h]
  exact RetCut.none_ hb
theorem RetStrip.yes {w w' : World} {H y : Int} {d : List Int} {T : List Sq} {A : Option Addr} {n c : Nat} (h : stripR H d = (y, H, T, true)) (hn : n = T.length) (ho : w'.ownsRow w.heap.size 78 3 (.slice A n c) n (flat T)) (hb : Below w.heap.size w w') :
    RetStrip w H d (.returned (.tuple #[.agg #[.int .i64 y, .int .i64 H, .slice A n c], .bool true])) w' := by
  unfold RetStrip
  rw [h]
  exact RetCut.mk hn ho hb
set_option maxRecDepth 100000 in
set_option maxHeartbeats 4000000 in
theorem implCof_any (H : Int) (A : Option Addr) (n c : Nat) (d : List Int) (w : World) (hl : d.length = n) (hn : n ≤ 1048576) (hd : IntsAt w w.heap.size A d) (hwf : ∀ s ∈ d, wfI s) :
    Calls Try.prog 44 #[.int .i64 H, .slice A n c] w (RetStrip w H d) := by
  subst hl
  obtain ⟨W1, hW1⟩ : ∃ W1, W1 = w.alloc (.cells #[.int .i64 0, .int .i64 0, .slice none 0 0] 30) := ⟨_, rfl⟩
  have q1 : Bx w.heap.size W1 0 0 none 0 0 := by rw [hW1]; exact Bx.start _ _ _ _ _ _ _
  have qf : ∀ o, W1.frozen? ⟨w.heap.size, o, none⟩ = false := by intro o; rw [hW1]; exact World.frozen?_alloc_at _ _ _ _ rfl
  have hB1 : Below w.heap.size w W1 := by rw [hW1]; exact (Below.refl _ _).alloc (Nat.le_refl _) _
  have hz1 : w.heap.size < W1.heap.size := q1.lt
  have CF := fillI_any H A d.length c d W1 rfl hn ((hd.below hB1).mono hB1.size) hwf
  unfold RetFill at CF
  clear hd
  rcases fillR_or H d with h0 | ⟨y, L, h1⟩
  · have HN := Lib.hid (stripR_none h0)
    rw [h0] at CF
    simp only [Bool.false_eq_true, if_false] at CF
    have HCF := Lib.hid CF
    clear CF h0
    go_enter Try.func44, Try.ntmps44
    go_wp2_with fail
    rw [← hW1]
    clear hW1
    (with_reducible refine HCF.out.mono ?_)
    rintro e w2 ⟨A2, c2, rfl, ho2, hb2⟩
    obtain ⟨w3, hw3⟩ : ∃ w3, w3 = w2.alloc (.cells #[.int .i64 0, .int .i64 0, .slice A2 0 c2] 30) := ⟨_, rfl⟩
    have hb3 : Below w2.heap.size w2 w3 := by rw [hw3]; exact (Below.refl _ _).alloc (Nat.le_refl _) _
    have q2 := q1.next hb2
    have q3 := q2.next hb3
    have qf2 : ∀ o, w2.frozen? ⟨w.heap.size, o, none⟩ = false := fun o => (hb2.frozen (p := ⟨w.heap.size, o, none⟩) q1.lt).trans (qf o)
    have t0 := (hb3.frozen (p := ⟨w.heap.size, 0, none⟩) q2.lt).trans (qf2 0)
    have t1 := (hb3.frozen (p := ⟨w.heap.size, 1, none⟩) q2.lt).trans (qf2 1)
    have t2 := (hb3.frozen (p := ⟨w.heap.size, 2, none⟩) q2.lt).trans (qf2 2)
    have hB2 := hB1.trans (hb2.mono hB1.size)
    have hB3 := hB2.trans (hb3.mono hB2.size)
    obtain ⟨_, r0, r1, r2⟩ := id q3
    clear q1 qf q2 qf2 hb2 hb3 ho2 q3
    subst hw3
    go_wp2_with fail
    have hB := (((hB3.setCell (p := ⟨w.heap.size, 0, none⟩) (Nat.le_refl _) (.int .i64 0)).setCell (p := ⟨w.heap.size, 1, none⟩) (Nat.le_refl _) (.int .i64 0)).setCell (p := ⟨w.heap.size, 2, none⟩) (Nat.le_refl _) (.slice none 0 0))
    refine bodyPost_ret (v := .tuple #[.agg #[.int .i64 0, .int .i64 0, .slice none 0 0], .bool false]) (by simp [results, Try.results44, go_sem, r0, r1, r2]) rfl ?_
    exact RetStrip.no HN.out hB
  · have hG := fillR_good h1
    have hs := J.good_sw hG
    have HG := Lib.hid hG
    have HS := Lib.hid hs
    have H1 := Lib.hid h1
    rw [h1] at CF
    simp only [if_true] at CF
    have HCF := Lib.hid CF
    clear CF hG hs h1
    go_enter Try.func44, Try.ntmps44
    go_wp2_with fail
    rw [← hW1]
    clear hW1
    (with_reducible refine HCF.out.mono ?_)
    rintro e w2 ⟨A2, c2, rfl, ho2, hb2⟩
    go_wp2_with fail
    obtain ⟨w3, hw3⟩ : ∃ w3, w3 = w2.alloc (.cells #[.int .i64 H, .int .i64 y, .slice A2 L.length c2] 30) := ⟨_, rfl⟩
    have b3 : Bx w2.heap.size w3 H y A2 L.length c2 := by rw [hw3]; exact Bx.start _ _ _ _ _ _ _
    have hb3 : Below w2.heap.size w2 w3 := by rw [hw3]; exact (Below.refl _ _).alloc (Nat.le_refl _) _
    have ho3 := own_keep ho2 hb3
    have q2 := q1.next hb2
    have q3 := q2.next hb3
    have qf3 : ∀ o, w3.frozen? ⟨w.heap.size, o, none⟩ = false := fun o => (hb3.frozen (p := ⟨w.heap.size, o, none⟩) q2.lt).trans ((hb2.frozen (p := ⟨w.heap.size, o, none⟩) q1.lt).trans (qf o))
    have hB2 := hB1.trans (hb2.mono hB1.size)
    have hB3 := hB2.trans (hb3.mono hB2.size)
    rw [← hw3]
    have hcap := own_cap ho3
    have CX := exchanged_any H y A2 L.length c2 L w3 rfl hcap (sqs_of_own ho3) HG.out
    have hz3 : w.heap.size < w3.heap.size := q3.lt
    obtain ⟨T, hT⟩ : ∃ T, T = srt (J.swL L) := ⟨_, rfl⟩
    rw [← hT] at CX
    have HS' : Hid (Good y H T) := Lib.hid (by rw [hT]; exact HS.out)
    clear HS
    have HT := Lib.hid hT
    clear hT
    have HCX := Lib.hid CX
    obtain ⟨_, x0, x1, x2⟩ := id b3
    clear q1 qf q2 hb2 hb3 ho2 ho3 hw3 CX b3
    go_wp2_with fail
    (with_reducible refine HCX.out.mono ?_)
    rintro e w4 ⟨A4, c4, rfl, ho4, hb4⟩
    have q4 := q3.next hb4
    have qf4 : ∀ o, w4.frozen? ⟨w.heap.size, o, none⟩ = false := fun o => (hb4.frozen (p := ⟨w.heap.size, o, none⟩) q3.lt).trans (qf3 o)
    have hB4 := hB3.trans (hb4.mono hB3.size)
    clear q3 qf3 hb4 x0 x1 x2
    go_wp2_with fail
    obtain ⟨w5, hw5⟩ : ∃ w5, w5 = w4.alloc (.cells #[.int .i64 y, .int .i64 H, .slice A4 T.length c4] 30) := ⟨_, rfl⟩
    have b5 : Bx w4.heap.size w5 y H A4 T.length c4 := by rw [hw5]; exact Bx.start _ _ _ _ _ _ _
    have hb5 : Below w4.heap.size w4 w5 := by rw [hw5]; exact (Below.refl _ _).alloc (Nat.le_refl _) _
    have ho5 := own_keep ho4 hb5
    have q5 := q4.next hb5
    have qf5 : ∀ o, w5.frozen? ⟨w.heap.size, o, none⟩ = false := fun o => (hb5.frozen (p := ⟨w.heap.size, o, none⟩) q4.lt).trans (qf4 o)
    have hB5 := hB4.trans (hb5.mono hB4.size)
    have hcap5 := own_cap ho5
    rw [← hw5]
    have CI := isStrip_any y H A4 T.length c4 T w5 rfl hcap5 (sqs_of_own ho5) (fun s hs => by
      have h1 := (good_fill HS'.out).within s hs
      have h2 := HS'.out.1
      have h3 := HS'.out.2.1
      unfold Within at h1
      unfold wfS wfI
      omega)
    have HCI := Lib.hid CI
    obtain ⟨_, x0, x1, x2⟩ := id b5
    clear q4 qf4 hb5 ho4 hw5 CI
    by_cases hS : Strip y H T
    · have HY : Hid (stripR H d = (y, H, T, true)) := Lib.hid (by rw [HT.out] at hS ⊢; exact stripR_yes H1.out hS)
      have HSS := Lib.hid hS
      clear hS
      go_wp2_with fail
      (with_reducible refine (callB_yes HCI.out HSS.out).mono ?_)
      rintro e w6 ⟨rfl, hb6⟩
      have b6 := b5.next hb6
      have q6 := q5.next hb6
      have ho6 := own_keep ho5 hb6
      have hz6 := q6.lt
      have t0 := (hb6.frozen (p := ⟨w.heap.size, 0, none⟩) q5.lt).trans (qf5 0)
      have t1 := (hb6.frozen (p := ⟨w.heap.size, 1, none⟩) q5.lt).trans (qf5 1)
      have t2 := (hb6.frozen (p := ⟨w.heap.size, 2, none⟩) q5.lt).trans (qf5 2)
      have hB6 := hB5.trans (hb6.mono hB5.size)
      clear x0 x1 x2
      obtain ⟨_, x0, x1, x2⟩ := id b6
      obtain ⟨_, r0, r1, r2⟩ := id q6
      clear b5 b6 q5 q6 qf5 ho5 hb6
      go_wp2_with fail
      have hB := ((hB6.setCell (p := ⟨w.heap.size, 0, none⟩) (Nat.le_refl _) (.int .i64 y)).setCell (p := ⟨w.heap.size, 1, none⟩) (Nat.le_refl _) (.int .i64 H)).setCell (p := ⟨w.heap.size, 2, none⟩) (Nat.le_refl _) (.slice A4 T.length c4)
      skip
      have R := ownsRow_setCell_below (ownsRow_setCell_below (ownsRow_setCell_below ho6 (a := ⟨w.heap.size, 0, none⟩) hz3 (.int .i64 y)) (a := ⟨w.heap.size, 1, none⟩) hz3 (.int .i64 H)) (a := ⟨w.heap.size, 2, none⟩) hz3 (.slice A4 T.length c4)
      refine bodyPost_ret (v := .tuple #[.agg #[.int .i64 y, .int .i64 H, .slice A4 T.length c4], .bool true]) (by simp [results, Try.results44, go_sem, r0, r1, r2]) rfl ?_
      exact RetStrip.yes HY.out rfl (own_base R (Nat.le_of_lt hz3)) hB
    · have HNO : Hid (stripR H d = (0, 0, [], false)) := Lib.hid (by rw [HT.out] at hS; exact stripR_long H1.out hS)
      have HSS := Lib.hid hS
      clear hS
      go_wp2_with fail
      (with_reducible refine (callB_no HCI.out HSS.out).mono ?_)
      rintro e w6 ⟨rfl, hb6⟩
      have q6 := q5.next hb6
      have t0 := (hb6.frozen (p := ⟨w.heap.size, 0, none⟩) q5.lt).trans (qf5 0)
      have t1 := (hb6.frozen (p := ⟨w.heap.size, 1, none⟩) q5.lt).trans (qf5 1)
      have t2 := (hb6.frozen (p := ⟨w.heap.size, 2, none⟩) q5.lt).trans (qf5 2)
      have hB6 := hB5.trans (hb6.mono hB5.size)
      obtain ⟨_, r0, r1, r2⟩ := id q6
      clear b5 q5 q6 qf5 ho5 hb6 x0 x1 x2
      go_wp2_with fail
      have hB := (((hB6.setCell (p := ⟨w.heap.size, 0, none⟩) (Nat.le_refl _) (.int .i64 0)).setCell (p := ⟨w.heap.size, 1, none⟩) (Nat.le_refl _) (.int .i64 0)).setCell (p := ⟨w.heap.size, 2, none⟩) (Nat.le_refl _) (.slice none 0 0))
      refine bodyPost_ret (v := .tuple #[.agg #[.int .i64 0, .int .i64 0, .slice none 0 0], .bool false]) (by simp [results, Try.results44, go_sem, r0, r1, r2]) rfl ?_
      exact RetStrip.no HNO.out hB
end Go.Proofs.Ytohajmbgdapnhaa
namespace Go.Proofs.Ytohajmbgdapnhaa
open Go.RowKit

/-- The memory of the model's stFill: the heights at block g, the squares behind it. -/
structure FT (w0 wr : World) (g m : Nat) (f : List Int) (A : Option Addr) (k c : Nat) (L : List Sq) : Prop where
  p1 : w0.heap.size < g
  p4 : g < wr.heap.size
  q : Bx w0.heap.size wr 0 0 none 0 0
  qf : ∀ o, wr.frozen? ⟨w0.heap.size, o, none⟩ = false
  own : wr.ownsRow (w0.heap.size + 1) 3 1 (.slice (some ⟨g, 0, none⟩) m m) m (ints f)
  sq : wr.ownsRow (g + 1) 78 3 (.slice A k c) k (flat L)
  below : Below w0.heap.size w0 wr
theorem FT.keep {w0 wr w' : World} {g m : Nat} {f : List Int} {A : Option Addr} {k c : Nat} {L : List Sq} (h : FT w0 wr g m f A k c L) (hb : Below wr.heap.size wr w') : FT w0 w' g m f A k c L :=
  ⟨h.p1, Nat.lt_of_lt_of_le h.p4 hb.size, h.q.next hb, fun o => (hb.frozen (p := ⟨w0.heap.size, o, none⟩) h.q.lt).trans (h.qf o), own_keep h.own hb, own_keep h.sq hb, h.below.trans (hb.mono h.below.size)⟩
theorem FT.set {w0 wr : World} {g m : Nat} {f : List Int} {A : Option Addr} {k c : Nat} {L : List Sq} (h : FT w0 wr g m f A k c L) (j : Nat) (v : Int) : FT w0 (wr.setCell ⟨g, j, none⟩ (.int .i64 v)) g m (f.set j v) A k c L := by
  obtain ⟨R1, R2⟩ := h.own.stored j (.int .i64 v)
  have hp := h.p1
  have n0 : some g ≠ some w0.heap.size := fun e => by cases e; omega
  refine ⟨h.p1, by simpa using h.p4, h.q.far R2 n0, fun o => ?_, by rw [ints_set]; exact R1, own_far h.sq R2 (fun kk hkk e => ?_), h.below.setCell (p := ⟨g, j, none⟩) (by simp; omega) _⟩
  · exact (R2.frozen_far ⟨w0.heap.size, o, none⟩ h.q.lt (fun e => n0 e.symm)).trans (h.qf o)
  · cases e
    have := (h.sq.lt g hkk).1
    omega
theorem FT.push {w0 wr w4 w6 : World} {g m : Nat} {f : List Int} {A A6 : Option Addr} {k c c6 : Nat} {L : List Sq} {q : Sq} (h : FT w0 wr g m f A k c L) (hb : Below wr.heap.size wr w4) (hg : w4.grownBy w6 (Value.slice A k c).ownBlock)
    (ho : w6.ownsRow (g + 1) 78 3 (.slice A6 (k + 1) c6) (k + 1) (flat L ++ [.int .i64 q.x, .int .i64 q.y, .int .i64 q.d])) : FT w0 w6 g m f A6 (k + 1) c6 (L ++ [q]) := by
  have h' := h.keep hb
  have p1 := h.p1
  have hne : ∀ b, b < g + 1 → (Value.slice A k c).ownBlock ≠ some b := fun b hb e => by have := (h.sq.lt b e).1; omega
  have q6 := h'.q.far hg (hne _ (by omega))
  have o6 := own_far h'.own hg (fun kk hkk => by cases hkk; exact hne g (by omega))
  have hB6 : Below w0.heap.size w0 w6 := h'.below.grown hg h'.below.size (fun kk e => by have := (h.sq.lt kk e).1; omega)
  refine ⟨p1, Nat.lt_of_lt_of_le h'.p4 hg.size, q6, fun o' => ?_, o6, ?_, hB6⟩
  · exact (hg.frozen_far ⟨w0.heap.size, o', none⟩ h'.q.lt (fun e => hne w0.heap.size (by omega) e.symm)).trans (h'.qf o')
  · have : flat (L ++ [q]) = flat L ++ [.int .i64 q.x, .int .i64 q.y, .int .i64 q.d] := by rw [flat_app]; rfl
    rw [this]
    exact ho
/-- What stFill returns. -/
def RetSt (w : World) (H : Int) (d : List Int) (e : Ending) (w' : World) : Prop :=
  ((stripR H d).2.2.2 = true ∧ RetStrip w H d e w') ∨ (stripR H d = (0, 0, [], false) ∧ (∃ a b A n c, e = .returned (.tuple #[.agg #[.int .i64 a, .int .i64 b, .slice A n c], .bool false])) ∧ Below w.heap.size w w')
theorem RetSt.no {w w' : World} {H a b : Int} {A : Option Addr} {n c : Nat} {d : List Int} (h : stripR H d = (0, 0, [], false)) (hb : Below w.heap.size w w') : RetSt w H d (.returned (.tuple #[.agg #[.int .i64 a, .int .i64 b, .slice A n c], .bool false])) w' :=
  .inr ⟨h, ⟨_, _, _, _, _, rfl⟩, hb⟩
theorem sw_app (L : List Sq) (x y s : Int) : J.swL (L ++ [⟨x, y, s⟩]) = J.swL L ++ [⟨y, x, s⟩] := by simp [J.swL, J.swS]
theorem sw_len' (L : List Sq) : (J.swL L).length = L.length := by simp [J.swL]
set_option maxRecDepth 100000 in
set_option maxHeartbeats 16000000 in
theorem stFill_any (m : Nat) (A : Option Addr) (n c : Nat) (d : List Int) (w : World) (hl : d.length = n) (hm1 : 1 ≤ m) (hm4 : m ≤ 4) (hn : n ≤ 30) (hd : IntsAt w w.heap.size A d) (hwf : ∀ s ∈ d, wfI s) :
    Calls Try.prog 94 #[.int .i64 (m : Int), .slice A n c] w (RetSt w m d) := by
  subst hl
  obtain ⟨W1, hW1⟩ : ∃ W1, W1 = w.alloc (.cells #[.int .i64 0, .int .i64 0, .slice none 0 0] 30) := ⟨_, rfl⟩
  have q1 : Bx w.heap.size W1 0 0 none 0 0 := by rw [hW1]; exact Bx.start _ _ _ _ _ _ _
  have qf : ∀ o, W1.frozen? ⟨w.heap.size, o, none⟩ = false := by intro o; rw [hW1]; exact World.frozen?_alloc_at _ _ _ _ rfl
  have hB1 : Below w.heap.size w W1 := by rw [hW1]; exact (Below.refl _ _).alloc (Nat.le_refl _) _
  have hz1 : W1.heap.size = w.heap.size + 1 := by rw [hW1]; simp
  obtain ⟨i0, hi, hz0, hz1', hz2⟩ := info_parts infoInt
  obtain ⟨j0, hj, hy0, hy1, hy2⟩ := info_parts infoSq
  go_enter Try.func94, Try.ntmps94
  go_wp2_with (at_make; refine wpList_make_full _ rfl _ _ 44 rfl (w.heap.size + 1) 3 i0 (.int .i64 0) 1 Try.underlying44 hi hz0 hz1' .i64 .i64 (m : Int) (m : Int) m rfl rfl rfl rfl (by rw [hz2]; omega) (by unfold maxLen; omega) (by simp) ?_; intro w2 hown hgrow)
  obtain ⟨g, hg⟩ : ∃ g, g = w.heap.size + 1 := ⟨_, rfl⟩
  have hM0 : FT w w2 g m (List.replicate m 0) none 0 0 [] := by
    have hl : (madeCells (Value.int .i64 0).cells (m * 1)).toList = ints (List.replicate m 0) := by
      rw [show (Value.int .i64 0).cells = #[.int .i64 0] from rfl, toList_madeCells_one]; simp [ints]
    rw [← hW1] at hown hgrow
    rw [hl, hz1, ← hg] at hown
    have hgl := (hown.lt g rfl).2
    have hnn : ∀ x, (none : Option Nat) ≠ some x := fun x e => by cases e
    refine ⟨by omega, hgl, q1.far hgrow (hnn _), fun o => (hgrow.frozen_far ⟨w.heap.size, o, none⟩ q1.lt (fun e => by cases e)).trans (qf o), by rw [hg] at hown ⊢; exact hown, World.ownsRow_nil _ _ _ _, hB1.grown hgrow hB1.size (fun kk e => by cases e)⟩
  have hgs : (w.alloc (.cells #[.int .i64 0, .int .i64 0, .slice none 0 0] 30)).heap.size = g := by rw [hg]; simp
  try rw [hgs]
  try rw [← hg]
  clear hown hgrow q1 qf hz1 hg hgs hB1 hW1
  go_loopw [7, 21] (fun sv i wr => ∃ (k : Nat) (f : List Int) (L : List Sq) (A' : Option Addr) (c' : Nat), k ≤ d.length ∧ sv = .slice A' k c' ∧ i = .int .i64 k ∧ FK m d k f L ∧ FT w wr g m f A' k c' (J.swL L)) (fun _ i _ => d.length - (intOf i).toNat)
  case atStart => exact ⟨0, _, [], none, 0, Nat.zero_le _, rfl, rfl, FK.start m d, hM0⟩
  case round =>
    obtain ⟨k, f, L, A1, c1, hk, rfl, rfl, hK, hM⟩ := hrel
    have hfl := hK.len
    have hLk := hK.num hk
    have HK := Lib.hid hK
    clear hK hM0
    by_cases hlt : k < d.length
    · obtain ⟨s, hs⟩ : ∃ s, d[k]? = some s := ⟨_, List.getElem?_eq_getElem hlt⟩
      obtain ⟨b, off, rfl, hb, d0⟩ := hd k s hs
      have hws := hwf s (List.mem_of_getElem? hs)
      unfold wfI at hws
      have d0r : wr.cell? ⟨b, off + k, none⟩ = some (.int .i64 s) := (hM.below.cell (p := ⟨b, _, none⟩) hb).trans d0
      have k0 : (0 : Int) ≤ (k : Int) := by omega
      have k1 : (k : Int) < (d.length : Int) := by omega
      have HS := Lib.hid hs
      clear hs d0 hd
      go_wp2_with fail
      go_loopw [10, 27] (fun xv iv wr => ∃ (j x : Nat), j ≤ m ∧ iv = .int .i64 (j : Int) ∧ xv = .int .i64 (x : Int) ∧ Scan f j x ∧ FT w wr g m f A1 k c1 (J.swL L)) (fun _ iv _ => m - (intOf iv).toNat)
      case atStart => exact ⟨0, 0, Nat.zero_le _, rfl, rfl, Scan.start (by omega), hM⟩
      case round =>
        obtain ⟨j, x, hjm, rfl, rfl, hsc, hMj⟩ := hrel
        have hxl := hsc.1
        obtain ⟨y, hy⟩ : ∃ y, f[x]? = some y := ⟨_, List.getElem?_eq_getElem hxl⟩
        have xc : wr.cell? ⟨g, x, none⟩ = some (.int .i64 y) := by
          rw [hMj.own.cellAt x (by omega)]
          simp [ints, hy]
        have x0 : (0 : Int) ≤ (x : Int) := by omega
        have x1 : (x : Int) < (m : Int) := by omega
        have HY := Lib.hid hy
        have HSC := Lib.hid hsc
        clear hy hsc
        by_cases hjl : j < m
        · obtain ⟨u, hu⟩ : ∃ u, f[j]? = some u := ⟨_, List.getElem?_eq_getElem (by omega)⟩
          have jc : wr.cell? ⟨g, j, none⟩ = some (.int .i64 u) := by
            rw [hMj.own.cellAt j (by omega)]
            simp [ints, hu]
          have j0' : (0 : Int) ≤ (j : Int) := by omega
          have j1 : (j : Int) < (m : Int) := by omega
          have HU := Lib.hid hu
          clear hu
          by_cases huy : u < y
          · go_wp2_with fail
            go_roundw
            case rel => exact ⟨j + 1, j, by omega, by go_num, rfl, HSC.out.new HY.out HU.out huy, hMj⟩
            case measure => simp [intOf]; omega
          · go_wp2_with fail
            go_roundw
            case rel => exact ⟨j + 1, x, by omega, by go_num, rfl, HSC.out.on HY.out HU.out huy, hMj⟩
            case measure => simp [intOf]; omega
        · obtain rfl : m = j := by omega
          have hsf : Scan f f.length x := by rw [hfl]; exact HSC.out
          obtain ⟨y', hm'⟩ := hsf.fin
          obtain rfl : y' = y := Option.some.inj (hm'.1.symm.trans HY.out)
          have HM := Lib.hid hm'
          have hyb := HK.out.bd x y' HY.out
          clear hm' hsf
          by_cases hs1 : s < 1
          · have hno : ¬ (1 ≤ s ∧ x + s.toNat ≤ m ∧ Lvl f x s.toNat y') := fun h => by omega
            have HNO := Lib.hid (HK.out.out HS.out HM.out hno)
            have hsd1 : decide (s < 1) = true := decide_eq_true hs1
            clear hno
            have t0 := hMj.qf 0
            have t1 := hMj.qf 1
            have t2 := hMj.qf 2
            obtain ⟨_, r0, r1, r2⟩ := id hMj.q
            have hB4 := hMj.below
            clear hMj
            go_wp2_with fail
            have hB := ((hB4.setCell (p := ⟨w.heap.size, 0, none⟩) (Nat.le_refl _) (.int .i64 0)).setCell (p := ⟨w.heap.size, 1, none⟩) (Nat.le_refl _) (.int .i64 0)).setCell (p := ⟨w.heap.size, 2, none⟩) (Nat.le_refl _) (.slice none 0 0)
            refine bodyPost_ret (v := .tuple #[.agg #[.int .i64 0, .int .i64 0, .slice none 0 0], .bool false]) (by simp [results, Try.results94, go_sem, r0, r1, r2]) rfl ?_
            exact RetSt.no HNO.out hB
          · have hsd1 : decide (s < 1) = false := decide_eq_false hs1
            by_cases hov : (x : Int) + s ≤ 9223372036854775807
            · have wx : IntKind.i64.wrap ((x : Int) + s) = (x : Int) + s := IntWalk.i64_in _ (by omega)
              by_cases hgt : (m : Int) < (x : Int) + s
              · have hno : ¬ (1 ≤ s ∧ x + s.toNat ≤ m ∧ Lvl f x s.toNat y') := fun h => by omega
                have HNO := Lib.hid (HK.out.out HS.out HM.out hno)
                have hgd : decide ((m : Int) < (x : Int) + s) = true := decide_eq_true hgt
                clear hno
                have t0 := hMj.qf 0
                have t1 := hMj.qf 1
                have t2 := hMj.qf 2
                obtain ⟨_, r0, r1, r2⟩ := id hMj.q
                have hB4 := hMj.below
                clear hMj
                go_wp2_with fail
                have hB := ((hB4.setCell (p := ⟨w.heap.size, 0, none⟩) (Nat.le_refl _) (.int .i64 0)).setCell (p := ⟨w.heap.size, 1, none⟩) (Nat.le_refl _) (.int .i64 0)).setCell (p := ⟨w.heap.size, 2, none⟩) (Nat.le_refl _) (.slice none 0 0)
                refine bodyPost_ret (v := .tuple #[.agg #[.int .i64 0, .int .i64 0, .slice none 0 0], .bool false]) (by simp [results, Try.results94, go_sem, r0, r1, r2]) rfl ?_
                exact RetSt.no HNO.out hB
              · have hgd : decide ((m : Int) < (x : Int) + s) = false := decide_eq_false hgt
                have wy : IntKind.i64.wrap (y' + s) = y' + s := IntWalk.i64_in _ (by omega)
                go_wp2_with fail
                clear xc
                go_loopw [14] (fun v wr => ∃ (t : Nat), v = .int .i64 (t : Int) ∧ x ≤ t ∧ t ≤ x + s.toNat ∧ Lvl f x (t - x) y' ∧ FT w wr g m (liftF f x (t - x) s) A1 k c1 (J.swL L)) (fun v _ => x + s.toNat - (intOf v).toNat)
                case atStart => exact ⟨x, rfl, Nat.le_refl _, Nat.le_add_right _ _, fun i h1 h2 => by omega, by rw [Nat.sub_self, liftF_zero]; exact hMj⟩
                case round =>
                  obtain ⟨t, rfl, ht1, ht2, hlv, hMt⟩ := hrel
                  have t0' : (0 : Int) ≤ (t : Int) := by omega
                  have HLV := Lib.hid hlv
                  clear hlv hMj hM
                  by_cases htl : t < x + s.toNat
                  · have t2' : (t : Int) < (x : Int) + s := by omega
                    have htm : t < m := by omega
                    obtain ⟨u, hu⟩ : ∃ u, f[t]? = some u := ⟨_, List.getElem?_eq_getElem (by omega)⟩
                    obtain ⟨hu1, hu2⟩ := liftF_step (s := s) ht1 hu
                    have tc : wr.cell? ⟨g, t, none⟩ = some (.int .i64 u) := by
                      rw [hMt.own.cellAt t (by omega)]
                      simp [ints, hu1]
                    have tz := hMt.own.frozenAt t
                    have tm1 : (t : Int) < (m : Int) := by omega
                    cases huy : (u == y')
                    · have hno : ¬ (1 ≤ s ∧ x + s.toNat ≤ m ∧ Lvl f x s.toNat y') := fun h => by
                        have := h.2.2 t ht1 htl
                        rw [hu] at this
                        cases this
                        simp at huy
                      have HNO := Lib.hid (HK.out.out HS.out HM.out hno)
                      have hune : (u != y') = true := by simpa [bne] using huy
                      clear hno hu hu1 hu2
                      have t0 := hMt.qf 0
                      have t1 := hMt.qf 1
                      have t2 := hMt.qf 2
                      obtain ⟨_, r0, r1, r2⟩ := id hMt.q
                      have hB4 := hMt.below
                      clear hMt
                      go_wp2_with fail
                      have hB := ((hB4.setCell (p := ⟨w.heap.size, 0, none⟩) (Nat.le_refl _) (.int .i64 0)).setCell (p := ⟨w.heap.size, 1, none⟩) (Nat.le_refl _) (.int .i64 0)).setCell (p := ⟨w.heap.size, 2, none⟩) (Nat.le_refl _) (.slice none 0 0)
                      refine bodyPost_ret (v := .tuple #[.agg #[.int .i64 0, .int .i64 0, .slice none 0 0], .bool false]) (by simp [results, Try.results94, go_sem, r0, r1, r2]) rfl ?_
                      exact RetSt.no HNO.out hB
                    · obtain rfl : u = y' := by simpa using huy
                      have hMs := hMt.set t (u + s)
                      rw [← hu2] at hMs
                      have hMS := Lib.hid hMs
                      have hl2 : Lvl f x (t + 1 - x) u := fun i h1 h2 => by
                        by_cases e : i = t
                        · subst e; exact hu
                        · exact HLV.out i h1 (by omega)
                      have HL2 := Lib.hid hl2
                      have hune : (u != u) = false := by simp
                      clear hMs hl2 hu hu1 hu2 hMt
                      go_wp2_with fail
                      go_roundw
                      case rel => exact ⟨t + 1, by go_num, by omega, by omega, HL2.out, hMS.out⟩
                      case measure => simp [intOf]; omega
                  · have hte : t - x = s.toNat := by omega
                    rw [hte] at hMt
                    have t2' : ¬ (t : Int) < (x : Int) + s := by omega
                    have hlv2 : Lvl f x s.toNat y' := by have := HLV.out; rwa [hte] at this
                    have hnext := HK.out.next HS.out HM.out (by omega) (by omega) (by omega) hlv2
                    have HNX := Lib.hid hnext
                    clear hnext hlv2 hte
                    have hsq := hMt.sq
                    have hbl : g + 1 ≤ wr.heap.size := hMt.p4
                    have hby1 : k + 1 ≤ maxLen := by unfold maxLen; omega
                    have hby2 : (k + 1) * 24 ≤ 140737488355328 := by omega
                    go_wp2_with (at_builtin; refine app_list rfl _ _ _ rfl (g + 1) 78 j0 (.agg #[.int .i64 0, .int .i64 0, .int .i64 0]) 3 24 Try.underlying28 hj hy0 hy1 hy2 rfl (by decide) (.slice A1 k c1) k _ rfl (hsq.alloc _) (some ⟨wr.heap.size, 0, none⟩) 1 1 [.int .i64 y', .int .i64 (x : Int), .int .i64 s] rfl rfl (.inr ⟨_, rfl, new3 _ _ _ _ _⟩) (one3 _ _ _) hby1 hby2 (by simp; omega) ?_; intro v' w6 hown6 hgrow hv6; obtain ⟨A6, c6, rfl⟩ := own_val hown6)
                    have hbb : Below wr.heap.size wr (wr.alloc (.cells #[.int .i64 y', .int .i64 (x : Int), .int .i64 s] 78)) := (Below.refl _ _).alloc (Nat.le_refl _) _
                    have HP := hMt.push (q := ⟨y', (x : Int), s⟩) hbb hgrow hown6
                    clear hgrow hown6 hv6 hbb
                    go_roundw
                    case rel => exact ⟨k + 1, _, _, A6, c6, by omega, rfl, by go_num, HNX.out, by rw [sw_app]; exact HP⟩
                    case measure => simp [intOf]; omega
            · have wx : ∃ z, IntKind.i64.wrap ((x : Int) + s) = z ∧ z < 0 := by
                refine ⟨_, rfl, ?_⟩
                rw [IntWalk.i64_left]
                unfold wrap64
                omega
              obtain ⟨z, wx, hz0'⟩ := wx
              have hgd : ¬ (m : Int) < z := by omega
              have hzd : decide ((m : Int) < z) = false := decide_eq_false hgd
              have hnext := HK.out.wild (x := x) (y := y') HS.out (by omega)
              have HNX := Lib.hid hnext
              clear hnext
              go_wp2_with fail
              clear xc
              go_loopw [14] (fun v wr => v = .int .i64 (x : Int) ∧ FT w wr g m f A1 k c1 (J.swL L)) (fun _ _ => 0)
              case atStart => exact ⟨rfl, hMj⟩
              case round =>
                obtain ⟨rfl, hMt⟩ := hrel
                have t2' : ¬ (x : Int) < z := by omega
                clear hMj hM
                have hsq := hMt.sq
                have hbl : g + 1 ≤ wr.heap.size := hMt.p4
                have hby1 : k + 1 ≤ maxLen := by unfold maxLen; omega
                have hby2 : (k + 1) * 24 ≤ 140737488355328 := by omega
                go_wp2_with (at_builtin; refine app_list rfl _ _ _ rfl (g + 1) 78 j0 (.agg #[.int .i64 0, .int .i64 0, .int .i64 0]) 3 24 Try.underlying28 hj hy0 hy1 hy2 rfl (by decide) (.slice A1 k c1) k _ rfl (hsq.alloc _) (some ⟨wr.heap.size, 0, none⟩) 1 1 [.int .i64 y', .int .i64 (x : Int), .int .i64 s] rfl rfl (.inr ⟨_, rfl, new3 _ _ _ _ _⟩) (one3 _ _ _) hby1 hby2 (by simp; omega) ?_; intro v' w6 hown6 hgrow hv6; obtain ⟨A6, c6, rfl⟩ := own_val hown6)
                have hbb : Below wr.heap.size wr (wr.alloc (.cells #[.int .i64 y', .int .i64 (x : Int), .int .i64 s] 78)) := (Below.refl _ _).alloc (Nat.le_refl _) _
                have HP := hMt.push (q := ⟨y', (x : Int), s⟩) hbb hgrow hown6
                clear hgrow hown6 hv6 hbb
                go_roundw
                case rel => exact ⟨k + 1, _, _, A6, c6, by omega, rfl, by go_num, HNX.out, by rw [sw_app]; exact HP⟩
                case measure => simp [intOf]; omega
    · obtain rfl : k = d.length := by omega
      have hfin := Lib.hid (HK.out.fin (by omega))
      obtain ⟨y, hy⟩ : ∃ y, f.headD 0 = y := ⟨_, rfl⟩
      rw [hy] at hfin
      have hf0 : f[0]? = some y := by rw [headF_at (by omega), hy]
      have hyb := HK.out.bd 0 y hf0
      have gc : wr.cell? ⟨g, 0, none⟩ = some (.int .i64 y) := by
        rw [hM.own.cellAt 0 (by omega)]
        simp [ints, hf0]
      have hsq := own_base hM.sq (Nat.le_refl _)
      have CM := cuMake_any y (m : Int) A1 d.length c1 (J.swL L) wr (by rw [sw_len']; exact hLk) (by omega) (sqs_of_own hsq)
      unfold RetMake at CM
      obtain ⟨T, hT⟩ : ∃ T, T = srt (J.swL L) := ⟨_, rfl⟩
      rw [← hT] at CM hfin
      have q3 := hM.q
      have qf3 := hM.qf
      have hB3 := hM.below
      have hzw := q3.lt
      have m0' : (0 : Int) < (m : Int) := by omega
      clear hM hd hf0 hy hsq hT
      by_cases hG : Good y (m : Int) T
      · rw [cutX_yes hG, cutX_yes hG, ifGood_yes hG, dc_true hG] at CM
        have HCM := Lib.hid CM
        have HG := Lib.hid hG
        clear CM hG
        go_wp2_with fail
        (with_reducible refine HCM.out.mono ?_)
        rintro e w4 ⟨A4, c4, rfl, ho4, hb4⟩
        go_wp2_with fail
        obtain ⟨w5, hw5⟩ : ∃ w5, w5 = w4.alloc (.cells #[.int .i64 y, .int .i64 (m : Int), .slice A4 T.length c4] 30) := ⟨_, rfl⟩
        have b5 : Bx w4.heap.size w5 y (m : Int) A4 T.length c4 := by rw [hw5]; exact Bx.start _ _ _ _ _ _ _
        have hb5 : Below w4.heap.size w4 w5 := by rw [hw5]; exact (Below.refl _ _).alloc (Nat.le_refl _) _
        have ho5 := own_keep ho4 hb5
        have q4 := q3.next hb4
        have q5 := q4.next hb5
        have qf5 : ∀ o, w5.frozen? ⟨w.heap.size, o, none⟩ = false := fun o => (hb5.frozen (p := ⟨w.heap.size, o, none⟩) q4.lt).trans ((hb4.frozen (p := ⟨w.heap.size, o, none⟩) q3.lt).trans (qf3 o))
        have hB4 := hB3.trans (hb4.mono hB3.size)
        have hB5 := hB4.trans (hb5.mono hB4.size)
        rw [← hw5]
        obtain ⟨_, x0, x1, x2⟩ := id b5
        obtain ⟨_, r0, r1, r2⟩ := id q5
        have t0 := qf5 0
        have t1 := qf5 1
        have t2 := qf5 2
        have hne : w.heap.size ≠ w4.heap.size := by have := q4.lt; omega
        clear q3 qf3 hb4 hb5 ho4 hw5 b5 q4 q5 qf5 gc
        go_region
        go_wp2_with fail
        have hB := (((hB5.setCell (p := ⟨w.heap.size, 0, none⟩) (Nat.le_refl _) (.int .i64 y)).setCell (p := ⟨w.heap.size, 1, none⟩) (Nat.le_refl _) (.int .i64 (m : Int))).setCell (p := ⟨w.heap.size, 2, none⟩) (Nat.le_refl _) (.slice A4 T.length c4)).drew
        have R := own_drew (ownsRow_setCell_below (ownsRow_setCell_below (ownsRow_setCell_below ho5 (a := ⟨w.heap.size, 0, none⟩) hzw (.int .i64 y)) (a := ⟨w.heap.size, 1, none⟩) hzw (.int .i64 (m : Int))) (a := ⟨w.heap.size, 2, none⟩) hzw (.slice A4 T.length c4))
        refine bodyPost_ret (v := .tuple #[.agg #[.int .i64 y, .int .i64 (m : Int), .slice A4 T.length c4], .bool (decide (y ≤ 30))]) (by simp [results, Try.results94, go_sem, r0, r1, r2]) rfl ?_
        by_cases h30 : y ≤ 30
        · have hst : Strip y (m : Int) T := ⟨HG.out, by omega, h30⟩
          have hyes := hfin.out.1 hst
          rw [decide_eq_true h30]
          exact .inl ⟨by rw [hyes], RetStrip.yes hyes rfl (own_base R (Nat.le_of_lt hzw)) hB⟩
        · have hst : ¬ Strip y (m : Int) T := fun k => h30 k.2.2
          rw [decide_eq_false h30]
          exact RetSt.no (hfin.out.2 hst) hB
      · rw [cutX_no hG, cutX_no hG, ifGood_no hG, dc_false hG] at CM
        have HCM := Lib.hid CM
        have hst : ¬ Strip y (m : Int) T := fun k => hG k.1
        have HNO := Lib.hid (hfin.out.2 hst)
        clear CM hG hst
        go_wp2_with fail
        (with_reducible refine HCM.out.mono ?_)
        rintro e w4 ⟨A4, c4, rfl, ho4, hb4⟩
        go_wp2_with fail
        obtain ⟨w5, hw5⟩ : ∃ w5, w5 = w4.alloc (.cells #[.int .i64 0, .int .i64 0, .slice A4 0 c4] 30) := ⟨_, rfl⟩
        have b5 : Bx w4.heap.size w5 0 0 A4 0 c4 := by rw [hw5]; exact Bx.start _ _ _ _ _ _ _
        have hb5 : Below w4.heap.size w4 w5 := by rw [hw5]; exact (Below.refl _ _).alloc (Nat.le_refl _) _
        have q4 := q3.next hb4
        have q5 := q4.next hb5
        have qf5 : ∀ o, w5.frozen? ⟨w.heap.size, o, none⟩ = false := fun o => (hb5.frozen (p := ⟨w.heap.size, o, none⟩) q4.lt).trans ((hb4.frozen (p := ⟨w.heap.size, o, none⟩) q3.lt).trans (qf3 o))
        have hB4 := hB3.trans (hb4.mono hB3.size)
        have hB5 := hB4.trans (hb5.mono hB4.size)
        try simp only [List.length_nil]
        rw [← hw5]
        obtain ⟨_, x0, x1, x2⟩ := id b5
        obtain ⟨_, r0, r1, r2⟩ := id q5
        have t0 := qf5 0
        have t1 := qf5 1
        have t2 := qf5 2
        have hne : w.heap.size ≠ w4.heap.size := by have := q4.lt; omega
        clear q3 qf3 hb4 hb5 ho4 hw5 b5 q4 q5 qf5 gc
        go_region
        go_wp2_with fail
        have hB := (((hB5.setCell (p := ⟨w.heap.size, 0, none⟩) (Nat.le_refl _) (.int .i64 0)).setCell (p := ⟨w.heap.size, 1, none⟩) (Nat.le_refl _) (.int .i64 0)).setCell (p := ⟨w.heap.size, 2, none⟩) (Nat.le_refl _) (.slice A4 0 c4)).drew
        refine bodyPost_ret (v := .tuple #[.agg #[.int .i64 0, .int .i64 0, .slice A4 0 c4], .bool false]) (by simp [results, Try.results94, go_sem, r0, r1, r2]) rfl ?_
        exact RetSt.no HNO.out hB
set_option maxRecDepth 100000 in
set_option maxHeartbeats 4000000 in
theorem specCof_any (H : Int) (A : Option Addr) (n c : Nat) (d : List Int) (w : World) (hl : d.length = n) (hn : n ≤ 1048576) (hd : IntsAt w w.heap.size A d) (hwf : ∀ s ∈ d, wfI s) :
    Calls Try.prog 43 #[.int .i64 H, .slice A n c] w (RetStrip w H d) := by
  subst hl
  obtain ⟨W1, hW1⟩ : ∃ W1, W1 = w.alloc (.cells #[.int .i64 0, .int .i64 0, .slice none 0 0] 30) := ⟨_, rfl⟩
  have q1 : Bx w.heap.size W1 0 0 none 0 0 := by rw [hW1]; exact Bx.start _ _ _ _ _ _ _
  have qf : ∀ o, W1.frozen? ⟨w.heap.size, o, none⟩ = false := by intro o; rw [hW1]; exact World.frozen?_alloc_at _ _ _ _ rfl
  have hB1 : Below w.heap.size w W1 := by rw [hW1]; exact (Below.refl _ _).alloc (Nat.le_refl _) _
  have hzw : w.heap.size < W1.heap.size := q1.lt
  have hd1 : IntsAt W1 W1.heap.size A d := (hd.below hB1).mono hB1.size
  by_cases hH : 1 ≤ H ∧ H ≤ 4
  · have d1 := Lib.hid (inB_iff.2 hH)
    by_cases h30 : 1 ≤ (d.length : Int) ∧ (d.length : Int) ≤ 30
    · have d2 := Lib.hid (inB_iff.2 h30)
      obtain ⟨m, rfl⟩ : ∃ m : Nat, H = (m : Int) := ⟨H.toNat, by omega⟩
      have CS := Lib.hid (stFill_any m A d.length c d W1 rfl (by omega) (by omega) (by omega) hd1 hwf)
      clear hd hd1
      go_enter Try.func43, Try.ntmps43
      go_wp2_with fail
      rw [← hW1]
      refine (l1In_any _ _ _ _).mono ?_
      rw [d1.out]
      rintro e w' ⟨rfl, rfl⟩
      go_wp2_with fail
      refine (l1In_any _ _ _ _).mono ?_
      rw [d2.out]
      rintro e w' ⟨rfl, rfl⟩
      go_wp2_with fail
      try rw [← hW1]
      clear hW1
      (with_reducible refine CS.out.mono ?_)
      rintro e w2 hret
      rcases hret with ⟨hok, A2, c2, rfl, ho2, hb2⟩ | ⟨hno, ⟨a, b, A2, n2, c2, rfl⟩, hb2⟩
      · obtain ⟨⟨X, Y, T, ok⟩, hR⟩ : ∃ r, stripR m d = r := ⟨_, rfl⟩
        rw [hR] at hok ho2 ⊢
        simp only at hok ho2 ⊢
        subst hok
        have HR := Lib.hid hR
        clear hR
        obtain ⟨w5, hw5⟩ : ∃ w5, w5 = w2.alloc (.cells #[.int .i64 X, .int .i64 Y, .slice A2 T.length c2] 30) := ⟨_, rfl⟩
        have b5 : Bx w2.heap.size w5 X Y A2 T.length c2 := by rw [hw5]; exact Bx.start _ _ _ _ _ _ _
        have hb5 : Below w2.heap.size w2 w5 := by rw [hw5]; exact (Below.refl _ _).alloc (Nat.le_refl _) _
        have ho5 := own_keep ho2 hb5
        have q4 := q1.next hb2
        have q5 := q4.next hb5
        have qf5 : ∀ o, w5.frozen? ⟨w.heap.size, o, none⟩ = false := fun o => (hb5.frozen (p := ⟨w.heap.size, o, none⟩) q4.lt).trans ((hb2.frozen (p := ⟨w.heap.size, o, none⟩) q1.lt).trans (qf o))
        have hB4 := hB1.trans (hb2.mono hB1.size)
        have hB5 := hB4.trans (hb5.mono hB4.size)
        obtain ⟨_, x0, x1, x2⟩ := id b5
        obtain ⟨_, r0, r1, r2⟩ := id q5
        have t0 := qf5 0
        have t1 := qf5 1
        have t2 := qf5 2
        have hne : w.heap.size ≠ w2.heap.size := by have := q4.lt; omega
        clear q1 qf hb2 hb5 ho2 b5 q4 q5 qf5
        subst hw5
        go_wp2_with fail
        have hB := ((hB5.setCell (p := ⟨w.heap.size, 0, none⟩) (Nat.le_refl _) (.int .i64 X)).setCell (p := ⟨w.heap.size, 1, none⟩) (Nat.le_refl _) (.int .i64 Y)).setCell (p := ⟨w.heap.size, 2, none⟩) (Nat.le_refl _) (.slice A2 T.length c2)
        have R := ownsRow_setCell_below (ownsRow_setCell_below (ownsRow_setCell_below ho5 (a := ⟨w.heap.size, 0, none⟩) hzw (.int .i64 X)) (a := ⟨w.heap.size, 1, none⟩) hzw (.int .i64 Y)) (a := ⟨w.heap.size, 2, none⟩) hzw (.slice A2 T.length c2)
        refine bodyPost_ret (v := .tuple #[.agg #[.int .i64 X, .int .i64 Y, .slice A2 T.length c2], .bool true]) (by simp [results, Try.results43, go_sem, r0, r1, r2]) rfl ?_
        unfold RetStrip
        rw [HR.out]
        exact RetCut.mk rfl (own_base R (Nat.le_of_lt hzw)) hB
      · skip
        have HNO := Lib.hid hno
        clear hno
        obtain ⟨w5, hw5⟩ : ∃ w5, w5 = w2.alloc (.cells #[.int .i64 a, .int .i64 b, .slice A2 n2 c2] 30) := ⟨_, rfl⟩
        have hb5 : Below w2.heap.size w2 w5 := by rw [hw5]; exact (Below.refl _ _).alloc (Nat.le_refl _) _
        have q4 := q1.next hb2
        have q5 := q4.next hb5
        have qf5 : ∀ o, w5.frozen? ⟨w.heap.size, o, none⟩ = false := fun o => (hb5.frozen (p := ⟨w.heap.size, o, none⟩) q4.lt).trans ((hb2.frozen (p := ⟨w.heap.size, o, none⟩) q1.lt).trans (qf o))
        have hB4 := hB1.trans (hb2.mono hB1.size)
        have hB5 := hB4.trans (hb5.mono hB4.size)
        obtain ⟨_, r0, r1, r2⟩ := id q5
        have t0 := qf5 0
        have t1 := qf5 1
        have t2 := qf5 2
        clear q1 qf hb2 hb5 q4 q5 qf5
        subst hw5
        go_wp2_with fail
        have hB := (((hB5.setCell (p := ⟨w.heap.size, 0, none⟩) (Nat.le_refl _) (.int .i64 0)).setCell (p := ⟨w.heap.size, 1, none⟩) (Nat.le_refl _) (.int .i64 0)).setCell (p := ⟨w.heap.size, 2, none⟩) (Nat.le_refl _) (.slice none 0 0))
        refine bodyPost_ret (v := .tuple #[.agg #[.int .i64 0, .int .i64 0, .slice none 0 0], .bool false]) (by simp [results, Try.results43, go_sem, r0, r1, r2]) rfl ?_
        exact RetStrip.no HNO.out hB
    · have d2 : Hid (inB (d.length : Int) 1 30 = false) := Lib.hid (by cases e : inB (d.length : Int) 1 30 with | false => rfl | true => exact absurd (inB_iff.1 e) h30)
      have HNO := Lib.hid (stripR_none (fillR_pre (W := H) (d := d) fun h => h30 (by have := h.2.1; omega)))
      obtain ⟨_, r0, r1, r2⟩ := id q1
      have t0 := qf 0
      have t1 := qf 1
      have t2 := qf 2
      clear hd hd1
      go_enter Try.func43, Try.ntmps43
      go_wp2_with fail
      rw [← hW1]
      refine (l1In_any _ _ _ _).mono ?_
      rw [d1.out]
      rintro e w' ⟨rfl, rfl⟩
      go_wp2_with fail
      try rw [← hW1]
      refine (l1In_any _ _ _ _).mono ?_
      rw [d2.out]
      rintro e w' ⟨rfl, rfl⟩
      clear hW1
      go_wp2_with fail
      have hB := (((hB1.setCell (p := ⟨w.heap.size, 0, none⟩) (Nat.le_refl _) (.int .i64 0)).setCell (p := ⟨w.heap.size, 1, none⟩) (Nat.le_refl _) (.int .i64 0)).setCell (p := ⟨w.heap.size, 2, none⟩) (Nat.le_refl _) (.slice none 0 0))
      refine bodyPost_ret (v := .tuple #[.agg #[.int .i64 0, .int .i64 0, .slice none 0 0], .bool false]) (by simp [results, Try.results43, go_sem, r0, r1, r2]) rfl ?_
      exact RetStrip.no HNO.out hB
  · have d1 : Hid (inB H 1 4 = false) := Lib.hid (by cases e : inB H 1 4 with | false => rfl | true => exact absurd (inB_iff.1 e) hH)
    have HNO := Lib.hid (stripR_high (d := d) hH)
    obtain ⟨_, r0, r1, r2⟩ := id q1
    have t0 := qf 0
    have t1 := qf 1
    have t2 := qf 2
    clear hd hd1
    go_enter Try.func43, Try.ntmps43
    go_wp2_with fail
    rw [← hW1]
    refine (l1In_any _ _ _ _).mono ?_
    rw [d1.out]
    rintro e w' ⟨rfl, rfl⟩
    clear hW1
    go_wp2_with fail
    have hB := (((hB1.setCell (p := ⟨w.heap.size, 0, none⟩) (Nat.le_refl _) (.int .i64 0)).setCell (p := ⟨w.heap.size, 1, none⟩) (Nat.le_refl _) (.int .i64 0)).setCell (p := ⟨w.heap.size, 2, none⟩) (Nat.le_refl _) (.slice none 0 0))
    refine bodyPost_ret (v := .tuple #[.agg #[.int .i64 0, .int .i64 0, .slice none 0 0], .bool false]) (by simp [results, Try.results43, go_sem, r0, r1, r2]) rfl ?_
    exact RetStrip.no HNO.out hB
end Go.Proofs.Ytohajmbgdapnhaa
