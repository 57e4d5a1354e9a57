/- LinesOf of the program. -/
import Derived.Test.YtnnhgblgbbfmpaaLnM
import Derived.Test.YtnnhgblgbbfmpaaSortL
import Derived.StillTailTactics
set_option linter.all false
namespace Go.Proofs.Ytnnhgblgbbfmpaa
open Go.RowKit

theorem ln_get {R : List M.Ln} {k : Nat} {r : M.Ln} (h : R[k]? = some r) : (lnL R)[k]? = some [r.y, r.a, r.b] := by simp [lnL, h]
/-- Rows and what they say. -/
theorem rows_say {RW : List Rw} {R : List M.Ln} (h : lists RW = lnL R) {k : Nat} {t : Rw} (ht : RW[k]? = some t) : ∃ r, R[k]? = some r ∧ t.L = [r.y, r.a, r.b] := by
  have h1 : (lists RW)[k]? = some t.L := by simp [lists, ht]
  rw [h] at h1
  simp only [lnL, List.getElem?_map, Option.map_eq_some_iff] at h1
  obtain ⟨r, hr, e⟩ := h1
  exact ⟨r, hr, e.symm⟩
/-- What a row of three numbers says. -/
def toLn : List Int → M.Ln
  | [y, a, b] => ⟨y, a, b⟩
  | _ => ⟨0, 0, 0⟩
theorem perm_ln {T RW : List Rw} {R : List M.Ln} (hp : T.Perm RW) (h : lists RW = lnL R) : ∃ Tm : List M.Ln, lists T = lnL Tm ∧ Tm.Perm R := by
  refine ⟨(lists T).map toLn, ?_, ?_⟩
  · have hall : ∀ l ∈ lists T, [(toLn l).y, (toLn l).a, (toLn l).b] = l := fun l hl => by
      have : l ∈ lists RW := (hp.map _).mem_iff.1 hl
      rw [h] at this
      obtain ⟨r, _, rfl⟩ := List.mem_map.1 this
      rfl
    unfold lnL
    rw [List.map_map]
    conv => lhs; rw [← List.map_id (lists T)]
    exact (List.map_congr_left fun l hl => (hall l hl).symm)
  · have h1 : ((lists T).map toLn).Perm ((lists RW).map toLn) := (hp.map _).map _
    rw [h] at h1
    have h2 : (lnL R).map toLn = R := by
      unfold lnL
      rw [List.map_map]
      conv => rhs; rw [← List.map_id R]
      exact List.map_congr_left fun r _ => rfl
    rwa [h2] at h1
theorem sorted_ln {T : List Rw} {Tm : List M.Ln} (h : lists T = lnL Tm) (hs : T.Pairwise fun a b => leL a.L b.L = true) : Tm.Pairwise fun r t => r.y < t.y ∨ r.y = t.y ∧ r.a ≤ t.a := by
  have h1 : (lists T).Pairwise fun a b => leL a b = true := List.pairwise_map.2 hs
  rw [h] at h1
  have h2 := List.pairwise_map.1 h1
  refine h2.imp fun {r t} q => ?_
  rw [leL_iff] at q
  simp [ltL] at q
  omega
theorem sides_take (a : Int) (L : List Sq) (k : Nat) (s : Sq) (h : L[k]? = some s) : M.sidesOf a (L.take (k + 1)) = M.sidesOf a (L.take k) ++ [M.sideLn s] := by
  unfold M.sidesOf
  rw [List.take_add_one, h]
  simp

set_option maxRecDepth 100000 in
set_option maxHeartbeats 16000000 in
theorem implLines_good (a b : Nat) (A : Option Addr) (n c : Nat) (L : List Sq) (w : World) (hl : L.length = n) (hc : n ≤ c) (hL : SqsAt w w.heap.size A L) (hwf : ∀ s ∈ L, wfS s) (hG : Good a b L) (hC : M.Cut L a b) :
    Calls Try.prog 38 #[.agg #[.int .i64 a, .int .i64 b, .slice A n c]] w fun e w' => ∃ R, M.IsLines (M.Side L) R ∧ R.length ≤ 31 ∧ RetSS w (lnL R) true e w' := by
  subst hl
  obtain ⟨j0, hj, hy0, hy1, hy2⟩ := info_parts infoSl
  have hF := good_fill hG
  have hW5 := hF.w
  have hH5 := hF.h
  have h30 : L.length ≤ 30 := hG.2.2.1.2
  have hb0 : ∀ o : Obj, Below w.heap.size w (w.alloc o) := fun o => (Below.refl _ _).alloc (Nat.le_refl _) o
  have Z0 : Box w.heap.size w (w.alloc (.cells #[.int .i64 a, .int .i64 b, .slice A L.length c] 28)) a b A c L := Box.start hL
  go_enter Try.func38, Try.ntmps38
  go_wp2_with fail
  refine (callB_yes (isCut_good a b A _ c L _ rfl hc ((hL.below (hb0 _)).mono (hb0 _).size) hwf) hG).mono ?_
  rintro e w1 ⟨rfl, hb1⟩
  have Z1 := Z0.next hb1
  obtain ⟨hB1, hz1, b0, b1, b2, hL1⟩ := id Z1
  have HC := Lib.hid hC
  have HG := Lib.hid hG
  clear Z0 hb1 hb0 hC hG hwf hL
  have O0 : OwnSS ((w1.alloc (.cells #[.int .i64 0, .int .i64 0, .int .i64 a] 3)).alloc (.cells #[.slice (some ⟨w1.heap.size, 0, none⟩) 3 3] 52)) w1.heap.size (some ⟨w1.heap.size + 1, 0, none⟩) 1 1 [⟨some ⟨w1.heap.size, 0, none⟩, 3, [0, 0, (a : Int)]⟩] := by
    refine ⟨rfl, ?_, ⟨fun r hr => ?_, List.pairwise_singleton _ _⟩, fun r hr k hk e => ?_⟩
    · have h := World.ownsRow_lit (e := 52) (size := 1) (w1.alloc (.cells #[.int .i64 0, .int .i64 0, .int .i64 a] 3)) #[.slice (some ⟨w1.heap.size, 0, none⟩) 3 3] 1 (Nat.le_refl _) (by unfold maxLen; omega) rfl
      rw [World.size_alloc] at h
      exact own_base h (by omega)
    · simp at hr
      subst hr
      exact (World.ownsRow_lit (e := 3) (size := 1) w1 #[.int .i64 0, .int .i64 0, .int .i64 a] 3 (Nat.le_refl _) (by unfold maxLen; omega) rfl).alloc _
    · simp at hr
      subst hr
      simp [Rw.val, Value.ownBlock] at hk e
      omega
  have hB2 : Below w1.heap.size w1 ((w1.alloc (.cells #[.int .i64 0, .int .i64 0, .int .i64 a] 3)).alloc (.cells #[.slice (some ⟨w1.heap.size, 0, none⟩) 3 3] 52)) := ((Below.refl _ _).alloc (Nat.le_refl _) _).alloc (by simp) _
  obtain ⟨W2, hW2⟩ : ∃ W2, W2 = (w1.alloc (.cells #[.int .i64 0, .int .i64 0, .int .i64 a] 3)).alloc (.cells #[.slice (some ⟨w1.heap.size, 0, none⟩) 3 3] 52) := ⟨_, rfl⟩
  rw [← hW2] at O0 hB2
  have Z2 := Z1.next hB2
  have HO0 := Lib.hid O0
  clear O0
  go_wp2_with fail
  go_loopw [4, 21] (fun v i wr => ∃ (k : Nat) (A' : Option Addr) (n' c' : Nat) (RW : List Rw), k ≤ L.length ∧ i = .int .i64 k ∧ v = .slice A' n' c' ∧ lists RW = lnL (M.sidesOf a (L.take k)) ∧ OwnSS wr w1.heap.size A' n' c' RW ∧ Below w1.heap.size w1 wr) (fun _ i _ => L.length - (intOf i).toNat)
  case atStart => exact ⟨0, _, 1, 1, _, Nat.zero_le _, rfl, rfl, rfl, by rw [← hW2]; exact HO0.out, by rw [← hW2]; exact hB2⟩
  case round =>
    clear HO0 hB2 Z2
    obtain ⟨k, A1, n1, c1, RW, hk, rfl, rfl, hM, hS, hbr⟩ := hrel
    have hs1 := hbr.size
    have Zr := Z1.next hbr
    obtain ⟨hBr, hzr, d0, d1, d2, hLr⟩ := id Zr
    have hn1 : n1 = k + 1 := by
      rw [hS.len, ← lists_len, hM, lnL_len]
      simp [M.sidesOf]
      omega
    by_cases hlt : k < L.length
    · obtain ⟨s, hs⟩ : ∃ s, L[k]? = some s := ⟨_, List.getElem?_eq_getElem hlt⟩
      obtain ⟨g, off, rfl, hg, e0, e1, e2⟩ := hLr k s hs
      have hins := hF.within s (List.mem_of_getElem? hs)
      unfold Within at hins
      have hsuc := sides_take a L k s hs
      have k0 : (0 : Int) ≤ (k : Int) := by omega
      have k1 : (k : Int) < (L.length : Int) := by omega
      have HM := Lib.hid hM
      have HSU := Lib.hid hsuc
      clear hM hs hsuc b0 b1 b2 hL1 hW2
      have hbl : n1 + 1 ≤ maxLen := by unfold maxLen; omega
      have hby : (n1 + 1) * 24 ≤ 140737488355328 := by omega
      go_upto_region 7 with fail
      obtain ⟨W3, hW3⟩ : ∃ W3, W3 = wr.alloc (.cells #[.int .i64 s.x, .int .i64 s.y, .int .i64 s.d] 71) := ⟨_, rfl⟩
      have hb3 : Below wr.heap.size wr W3 := by rw [hW3]; exact (Below.refl _ _).alloc (Nat.le_refl _) _
      have f0 : W3.cell? ⟨wr.heap.size, 0, none⟩ = some (.int .i64 s.x) := by rw [hW3]; simp
      have f1 : W3.cell? ⟨wr.heap.size, 1, none⟩ = some (.int .i64 s.y) := by rw [hW3]; simp
      have f2 : W3.cell? ⟨wr.heap.size, 2, none⟩ = some (.int .i64 s.d) := by rw [hW3]; simp
      have hz3 : wr.heap.size < W3.heap.size := by rw [hW3]; simp
      have hS3 := hS.keep hb3
      have hB3 := hbr.trans (hb3.mono hs1)
      have hw1 := hB3.size
      rw [← hW3]
      clear hW3 hS hb3 e0 e1 e2 d0 d1 d2 hLr
      go_wp2_with (at_builtin; refine app_list rfl _ _ _ rfl w1.heap.size 52 j0 (.slice none 0 0) 1 24 Try.underlying37 hj hy0 hy1 hy2 rfl (by decide) (.slice A1 n1 c1) n1 _ rfl ((hS3.outer.alloc _).alloc _) (some ⟨W3.heap.size + 1, 0, none⟩) 1 1 [.slice (some ⟨W3.heap.size, 0, none⟩) 3 3] rfl rfl (.inr ⟨_, rfl, new1' _ _ _ _⟩) (one1 _ rfl) hbl hby (by simp; omega) ?_; intro v' w6 hown6 hgrow hv6)
      have hB7 : Below w1.heap.size w1 w6 := ((hB3.alloc hw1 _).alloc (by simp; omega) _).grown hgrow (by simp; omega) (fun k hk => (hS3.lt (.inl hk)).1)
      obtain ⟨A7, c7, rfl, hS7⟩ := (hS3.keep (((Below.refl _ _).alloc (Nat.le_refl _) _).alloc (by simp) _)).push ⟨some ⟨W3.heap.size, 0, none⟩, 3, [s.y + s.d, s.x, s.x + s.d]⟩ ((World.ownsRow_lit W3 #[.int .i64 (s.y + s.d), .int .i64 s.x, .int .i64 (s.x + s.d)] 3 hw1 (by unfold maxLen; omega) rfl).alloc _) (fun kk hkk hkb => by have := (hS3.lt hkb).2; simp [Rw.val, Value.ownBlock] at hkk; omega) hown6 hgrow hv6
      have HS7 := Lib.hid hS7
      clear hgrow hown6 hv6 hS3 hS7
      go_wp2_with fail
      go_roundw
      case rel => exact ⟨k + 1, A7, n1 + 1, c7, _, by omega, by go_num, rfl, by rw [HSU.out, lists_app, lnL_app, HM.out]; rfl, HS7.out, hB7⟩
      case measure => simp [intOf]; omega
    · obtain rfl : k = L.length := by omega
      rw [List.take_length] at hM
      have hnn : n1 ≤ 31 := by omega
      have hn0 : 0 < n1 := by omega
      have hm3 : ∀ r ∈ RW, r.L.length ≤ 1048576 := fun r hr => by
        obtain ⟨i, hi⟩ := List.mem_iff_getElem?.1 hr
        obtain ⟨q, _, e⟩ := rows_say hM hi
        rw [e]; simp
      have CS := sortL_any A1 n1 c1 w1.heap.size RW wr (by omega) hm3 hS
      have HM := Lib.hid hM
      clear hM hm3 b0 b1 b2 hL1 hW2 d0 d1 d2 hLr hS hn1
      go_wp2_with fail
      (with_reducible refine CS.mono ?_)
      rintro e w3 ⟨rfl, T, hp, hs, hS3, hgr⟩
      obtain ⟨Tm, hTm, hpm⟩ := perm_ln hp HM.out
      have hsort := M.sides_sorted HC.out (by omega) hpm (sorted_ln hTm hs)
      have hlenT := hS3.len
      obtain ⟨G, rfl⟩ := own_form hS3.outer (by omega)
      have hB3 : Below w1.heap.size w1 w3 := hbr.trans ((below_of_grown hgr (B := w1.heap.size) hs1 (fun k hk => (hS3.lt (.inl hk)).1)))
      have hMM := MgM.start hS3
      have HMM := Lib.hid hMM
      have HTM := Lib.hid hTm
      have HPM := Lib.hid hpm
      have HSO := Lib.hid hsort
      have HGN : Tm.length = n1 := by rw [hlenT, ← lists_len, hTm, lnL_len]
      have HGL := Lib.hid HGN
      have HLT := Lib.hid hlenT
      clear CS hp hs hS3 hgr hMM hTm hpm hsort hbr hBr Zr HGN hlenT
      go_wp2_with fail
      go_loopw [7, 46] (fun v i wr => ∃ (k : Nat) (A7 : Option Addr) (n7 c7 : Nat) (R : List Rw) (Rm : List M.Ln), k ≤ n1 ∧ i = .int .i64 k ∧ v = .slice A7 n7 c7 ∧ lists R = lnL Rm ∧ M.Mg Tm k Rm ∧ Rm.length ≤ k ∧ MgM wr w1.heap.size G n1 c1 T k A7 n7 c7 R ∧ Below w1.heap.size w1 wr) (fun _ i _ => n1 - (intOf i).toNat)
      case atStart => exact ⟨0, none, 0, 0, [], [], Nat.zero_le _, rfl, rfl, rfl, M.Mg.start Tm, Nat.le_refl _, HMM.out, hB3⟩
      case round =>
        clear HMM hB3
        obtain ⟨k, A7, n7, c7, R, Rm, hk, rfl, rfl, hR, hMg, hlen, hMM, hbr⟩ := hrel
        by_cases hlt : k < n1
        · obtain ⟨t, ht⟩ : ∃ t, T[k]? = some t := ⟨_, List.getElem?_eq_getElem (by rw [← HLT.out]; exact hlt)⟩
          obtain ⟨rt, hrt, htL⟩ := rows_say HTM.out ht
          have hot := hMM.inner.own t (by rw [drop_at ht]; simp)
          obtain ⟨At, ct, Lt⟩ := t
          simp only at htL
          subst htL
          obtain ⟨gt, hgt⟩ := own_form hot (by simp)
          simp only at hgt
          subst hgt
          have hgz : gt < wr.heap.size := (hot.lt gt rfl).2
          have hGz : G < wr.heap.size := (hMM.outT.lt G rfl).2
          have ot := hMM.outT.cellAt k (by omega)
          rw [show (vals T)[k]? = some (.slice (some ⟨gt, 0, none⟩) 3 ct) by simp [vals, ht, Rw.val]] at ot
          have t0 := hot.cellAt 0 (by simp)
          have t1 := hot.cellAt 1 (by simp)
          have t2 := hot.cellAt 2 (by simp)
          have et : ints [rt.y, rt.a, rt.b] = [.int .i64 rt.y, .int .i64 rt.a, .int .i64 rt.b] := rfl
          simp only [et, List.getElem?_cons_zero, List.getElem?_cons_succ] at t0 t1 t2
          have k0 : (0 : Int) ≤ (k : Int) := by omega
          have k1 : (k : Int) < (n1 : Int) := by omega
          have hn7 := hMM.len7
          have hl7 : R.length = Rm.length := by rw [← lists_len, hR, lnL_len]
          have C : ∀ b o v, b < wr.heap.size → wr.cell? ⟨b, o, none⟩ = some v → ∀ u : Later wr.heap.size wr, u.val.cell? ⟨b, o, none⟩ = some v := fun b o v hb h u => (u.ok.cell (p := ⟨b, o, none⟩) hb).trans h
          have T0 := C _ _ _ hgz t0
          have T1 := C _ _ _ hgz t1
          have hne := fun t ht => M.sides_ne HC.out (by omega) t (HPM.out.mem_iff.1 ht)
          have HR := Lib.hid hR
          have HT := Lib.hid ht
          have HMM := Lib.hid hMM
          rcases Nat.eq_zero_or_pos n7 with h7 | h7
          · have hRm0 : Rm = [] := List.eq_nil_of_length_eq_zero (by omega)
            have hadd := hMg.add hne HSO.out hrt (fun R1 l e => by rw [hRm0] at e; simp at e)
            have HADD := Lib.hid hadd
            subst h7
            have HLEN := Lib.hid hlen
            clear hadd hRm0 hMg hrt hR ht hMM hot hne hn7 hl7 hlen
            go_wp2_with fail
            refine wp_region_sub wr.heap.size (by kernel_rfl) (by kernel_rfl) ?_
            repeat (first | go_big_quiet_step (fail) | quiet_step (fail))
            refine wpQuiet_nil ?_
            rintro w4 ⟨uu, hu⟩; have hb4 := uu.ok; rw [← hu] at hb4; clear hu uu
            have hM4 := HMM.out.keep hb4
            have hbr4 := hbr.trans (hb4.mono hbr.size)
            have hz14 := hbr4.size
            have hz4 := hb4.size
            clear T0 T1 C t0 t1 t2 ot
            have hMA := hM4.keep ((Below.refl _ _).alloc (Nat.le_refl _) (.cells #[.slice (some ⟨gt, 0, none⟩) 3 ct] 52))
            have hOA := hMA.outR
            have hbl : 0 + 1 ≤ maxLen := by unfold maxLen; omega
            have hby : (0 + 1) * 24 ≤ 140737488355328 := by omega
            go_wp2_with (at_builtin; refine app_list rfl _ _ _ rfl w1.heap.size 52 j0 (.slice none 0 0) 1 24 Try.underlying37 hj hy0 hy1 hy2 rfl (by decide) (.slice A7 0 c7) 0 _ rfl hOA (some ⟨w4.heap.size, 0, none⟩) 1 1 [.slice (some ⟨gt, 0, none⟩) 3 ct] rfl rfl (.inr ⟨_, rfl, new1 _ _ _⟩) (one1 _ rfl) hbl hby (by simp; omega) ?_; intro v' w6 hown6 hgrow hv6)
            obtain ⟨A9, c9, rfl, hM9⟩ := hMA.add HT.out hown6 hgrow hv6
            have hB9 : Below w1.heap.size w1 w6 := (hbr4.alloc hbr4.size _).grown hgrow (by simp; omega) (fun k hk => (hOA.lt k hk).1)
            have HM9 := Lib.hid hM9
            clear hown6 hgrow hv6 hM9 hOA hMA
            go_wp2_with fail
            go_roundw
            case rel => exact ⟨k + 1, A9, 0 + 1, c9, R ++ [⟨some ⟨gt, 0, none⟩, ct, [rt.y, rt.a, rt.b]⟩], Rm ++ [rt], by omega, by go_num, rfl, by rw [lists_app, HR.out, lnL_app]; rfl, HADD.out, by have := HLEN.out; simp; omega, HM9.out, hB9⟩
            case measure => simp [intOf]; omega
          · obtain ⟨Rm1, lm, hRm⟩ : ∃ Rm1 lm, Rm = Rm1 ++ [lm] := by
              rcases List.eq_nil_or_concat Rm with e | ⟨P, q, e⟩
              · rw [e] at hl7; simp at hl7; rw [hl7] at hn7; simp at hn7; omega
              · exact ⟨P, q, by rw [e, List.concat_eq_append]⟩
            obtain ⟨R1, l, hR1⟩ : ∃ R1 l, R = R1 ++ [l] := by
              rcases List.eq_nil_or_concat R with e | ⟨P, q, e⟩
              · rw [e] at hn7; simp at hn7; omega
              · exact ⟨P, q, by rw [e, List.concat_eq_append]⟩
            obtain ⟨hla, hlb⟩ : lists R1 = lnL Rm1 ∧ l.L = [lm.y, lm.a, lm.b] := by
              have e := hR
              rw [hR1, hRm, lists_app, lnL_app] at e
              have := List.append_inj' e (by simp [lists, lnL])
              exact ⟨this.1, by simpa [lists, lnL] using this.2⟩
            obtain ⟨m, hm⟩ : ∃ m, n7 = m + 1 := ⟨n7 - 1, by omega⟩
            have hol := hMM.inner.own l (by rw [hR1]; simp)
            obtain ⟨Al, cl, Ll⟩ := l
            simp only at hlb
            subst hlb
            obtain ⟨gl, hgl⟩ := own_form hol (by simp)
            simp only at hgl
            subst hgl
            have hglz : gl < wr.heap.size := (hol.lt gl rfl).2
            have hgb : w1.heap.size ≤ gl := (hol.lt gl rfl).1
            obtain ⟨G7, hG7⟩ := own_form hMM.outR (by omega)
            subst hG7
            have hG7z : G7 < wr.heap.size := (hMM.outR.lt G7 rfl).2
            have ol := hMM.outR.cellAt m (by omega)
            rw [show (vals R)[m]? = some (.slice (some ⟨gl, 0, none⟩) 3 cl) by
              have e : R1.length = m := by rw [hR1] at hn7; simp at hn7; omega
              rw [hR1]; simp [vals, ← e, Rw.val]] at ol
            have l0 := hol.cellAt 0 (by simp)
            have l2 := hol.cellAt 2 (by simp)
            have el : ints [lm.y, lm.a, lm.b] = [.int .i64 lm.y, .int .i64 lm.a, .int .i64 lm.b] := rfl
            simp only [el, List.getElem?_cons_zero, List.getElem?_cons_succ] at l0 l2
            have fl := hol.frozenAt 2
            have OL := C _ _ _ hG7z ol
            have L0 := C _ _ _ hglz l0
            have L2 := C _ _ _ hglz l2
            have m0 : (0 : Int) ≤ (m : Int) := by omega
            have m1 : (m : Int) < (m : Int) + 1 := by omega
            subst hm
            by_cases hy : lm.y = rt.y
            · have q1 : (lm.y == rt.y) = true := by simpa using hy
              by_cases hb' : lm.b = rt.a
              · have q2 : (lm.b == rt.a) = true := by simpa using hb'
                subst hR1
                have hmg := (hRm ▸ hMg : M.Mg Tm k (Rm1 ++ [lm])).merge hne hrt hy hb'
                have HMG := Lib.hid hmg
                have HLA := Lib.hid hla
                have HLEN := Lib.hid (show Rm1.length + 1 ≤ k by rw [hRm] at hlen; simpa using hlen)
                have hm31 : m ≤ 31 := by omega
                clear hmg hla hRm hMg hrt hR ht hMM hot hol hne hy hb' hlen hn7 hl7
                go_wp2_with fail
                refine wp_region_sub wr.heap.size (by kernel_rfl) (by kernel_rfl) ?_
                repeat (first | go_big_quiet_step (fail) | quiet_step (fail))
                refine wpQuiet_nil ?_
                rintro w4 ⟨uu, hu⟩; have hb4 := uu.ok; rw [← hu] at hb4; clear hu uu
                have hM4 := HMM.out.keep hb4
                have hbr4 := hbr.trans (hb4.mono hbr.size)
                have hz14 := hbr4.size
                have hz4 := hb4.size
                have ol := (hb4.cell (p := ⟨G7, m, none⟩) hG7z).trans ol
                have l2 := (hb4.cell (p := ⟨gl, 2, none⟩) hglz).trans l2
                have t2 := (hb4.cell (p := ⟨gt, 2, none⟩) hgz).trans t2
                have fl := (hb4.frozen (p := ⟨gl, 2, none⟩) hglz).trans fl
                have HM4 := Lib.hid hM4
                clear T0 T1 OL L0 L2 C t0 t1 l0 ot hM4
                go_wp2_with fail
                go_still_tail 8, (by kernel_rfl)
                change wpList _ _ _ _ _ w4.drew
                obtain ⟨W6, hW6⟩ : ∃ W6, W6 = w4.drew := ⟨_, rfl⟩
                have hb6 : Below w4.heap.size w4 W6 := by rw [hW6]; exact (Below.refl _ _).drew
                rw [← hW6]
                clear hW6
                have hgl4 : gl < w4.heap.size := by omega
                have l2 := (hb6.cell (p := ⟨gl, 2, none⟩) hgl4).trans l2
                have fl := (hb6.frozen (p := ⟨gl, 2, none⟩) hgl4).trans fl
                have hM6 := Lib.hid ((HM4.out.keep hb6).merge HT.out (j := 2) (by simp) rt.b)
                have hB6 := (hbr4.trans (hb6.mono hbr4.size)).setCell (p := ⟨gl, 2, none⟩) (by show w1.heap.size ≤ gl; exact hgb) (.int .i64 rt.b)
                clear ol t2 hbr4 hb6
                go_wp2_with fail
                go_roundw
                case rel => exact ⟨k + 1, some ⟨G7, 0, none⟩, m + 1, c7, R1 ++ [⟨some ⟨gl, 0, none⟩, cl, [lm.y, lm.a, lm.b].set 2 rt.b⟩], Rm1 ++ [⟨lm.y, lm.a, rt.b⟩], by omega, by go_num, rfl, by rw [lists_app, HLA.out, lnL_app]; rfl, HMG.out, by have := HLEN.out; simp; omega, hM6.out, hB6⟩
                case measure => simp [intOf]; omega
              · have q2 : (lm.b == rt.a) = false := by simpa using hb'
                have hadd := hMg.add hne HSO.out hrt (fun R1' l' e h => by
                  rw [hRm] at e
                  have := List.append_inj' e rfl
                  have e2 : lm = l' := by simpa using this.2
                  subst e2
                  exact hb' h.2)
                have HADD := Lib.hid hadd
                have HLEN := Lib.hid hlen
                have hm31 : m ≤ 31 := by omega
                clear hadd hRm hR1 hla hMg hrt hR ht hMM hot hol hne hy hb' hn7 hl7 hlen
                go_wp2_with fail
                refine wp_region_sub wr.heap.size (by kernel_rfl) (by kernel_rfl) ?_
                repeat (first | go_big_quiet_step (fail) | quiet_step (fail))
                refine wpQuiet_nil ?_
                rintro w4 ⟨uu, hu⟩; have hb4 := uu.ok; rw [← hu] at hb4; clear hu uu
                have hM4 := HMM.out.keep hb4
                have hbr4 := hbr.trans (hb4.mono hbr.size)
                have hz14 := hbr4.size
                have hz4 := hb4.size
                clear T0 T1 OL L0 L2 C t0 t1 t2 l0 l2 ol fl ot
                have hMA := hM4.keep ((Below.refl _ _).alloc (Nat.le_refl _) (.cells #[.slice (some ⟨gt, 0, none⟩) 3 ct] 52))
                have hOA := hMA.outR
                have hbl : (m + 1) + 1 ≤ maxLen := by unfold maxLen; omega
                have hby : ((m + 1) + 1) * 24 ≤ 140737488355328 := by omega
                go_wp2_with (at_builtin; refine app_list rfl _ _ _ rfl w1.heap.size 52 j0 (.slice none 0 0) 1 24 Try.underlying37 hj hy0 hy1 hy2 rfl (by decide) (.slice (some ⟨G7, 0, none⟩) (m + 1) c7) (m + 1) _ rfl hOA (some ⟨w4.heap.size, 0, none⟩) 1 1 [.slice (some ⟨gt, 0, none⟩) 3 ct] rfl rfl (.inr ⟨_, rfl, new1 _ _ _⟩) (one1 _ rfl) hbl hby (by simp; omega) ?_; intro v' w6 hown6 hgrow hv6)
                obtain ⟨A9, c9, rfl, hM9⟩ := hMA.add HT.out hown6 hgrow hv6
                have hB9 : Below w1.heap.size w1 w6 := (hbr4.alloc hbr4.size _).grown hgrow (by simp; omega) (fun k hk => (hOA.lt k hk).1)
                have HM9 := Lib.hid hM9
                clear hown6 hgrow hv6 hM9 hOA hMA
                go_wp2_with fail
                go_roundw
                case rel => exact ⟨k + 1, A9, (m + 1) + 1, c9, R ++ [⟨some ⟨gt, 0, none⟩, ct, [rt.y, rt.a, rt.b]⟩], Rm ++ [rt], by omega, by go_num, rfl, by rw [lists_app, HR.out, lnL_app]; rfl, HADD.out, by have := HLEN.out; simp; omega, HM9.out, hB9⟩
                case measure => simp [intOf]; omega
            · have q1 : (lm.y == rt.y) = false := by simpa using hy
              have hadd := hMg.add hne HSO.out hrt (fun R1' l' e h => by
                rw [hRm] at e
                have := List.append_inj' e rfl
                have e2 : lm = l' := by simpa using this.2
                subst e2
                exact hy h.1)
              have HADD := Lib.hid hadd
              have HLEN := Lib.hid hlen
              have hm31 : m ≤ 31 := by omega
              clear hadd hRm hR1 hla hMg hrt hR ht hMM hot hol hne hy hn7 hl7 hlen
              go_wp2_with fail
              refine wp_region_sub wr.heap.size (by kernel_rfl) (by kernel_rfl) ?_
              repeat (first | go_big_quiet_step (fail) | quiet_step (fail))
              refine wpQuiet_nil ?_
              rintro w4 ⟨uu, hu⟩; have hb4 := uu.ok; rw [← hu] at hb4; clear hu uu
              have hM4 := HMM.out.keep hb4
              have hbr4 := hbr.trans (hb4.mono hbr.size)
              have hz14 := hbr4.size
              have hz4 := hb4.size
              clear T0 T1 OL L0 L2 C t0 t1 t2 l0 l2 ol fl ot
              have hMA := hM4.keep ((Below.refl _ _).alloc (Nat.le_refl _) (.cells #[.slice (some ⟨gt, 0, none⟩) 3 ct] 52))
              have hOA := hMA.outR
              have hbl : (m + 1) + 1 ≤ maxLen := by unfold maxLen; omega
              have hby : ((m + 1) + 1) * 24 ≤ 140737488355328 := by omega
              go_wp2_with (at_builtin; refine app_list rfl _ _ _ rfl w1.heap.size 52 j0 (.slice none 0 0) 1 24 Try.underlying37 hj hy0 hy1 hy2 rfl (by decide) (.slice (some ⟨G7, 0, none⟩) (m + 1) c7) (m + 1) _ rfl hOA (some ⟨w4.heap.size, 0, none⟩) 1 1 [.slice (some ⟨gt, 0, none⟩) 3 ct] rfl rfl (.inr ⟨_, rfl, new1 _ _ _⟩) (one1 _ rfl) hbl hby (by simp; omega) ?_; intro v' w6 hown6 hgrow hv6)
              obtain ⟨A9, c9, rfl, hM9⟩ := hMA.add HT.out hown6 hgrow hv6
              have hB9 : Below w1.heap.size w1 w6 := (hbr4.alloc hbr4.size _).grown hgrow (by simp; omega) (fun k hk => (hOA.lt k hk).1)
              have HM9 := Lib.hid hM9
              clear hown6 hgrow hv6 hM9 hOA hMA
              go_wp2_with fail
              go_roundw
              case rel => exact ⟨k + 1, A9, (m + 1) + 1, c9, R ++ [⟨some ⟨gt, 0, none⟩, ct, [rt.y, rt.a, rt.b]⟩], Rm ++ [rt], by omega, by go_num, rfl, by rw [lists_app, HR.out, lnL_app]; rfl, HADD.out, by have := HLEN.out; simp; omega, HM9.out, hB9⟩
              case measure => simp [intOf]; omega
        · obtain rfl : k = n1 := by omega
          have hO := hMM.done
          have hLn : M.IsLines (M.Side L) Rm := by
            have h' : M.Mg Tm Tm.length Rm := by rw [HGL.out]; exact hMg
            exact h'.done fun y x => by
              rw [M.side_iff HC.out (by omega) y x]
              constructor
              · rintro ⟨q, hq, h⟩
                exact ⟨q, HPM.out.mem_iff.2 hq, h⟩
              · rintro ⟨q, hq, h⟩
                exact ⟨q, HPM.out.mem_iff.1 hq, h⟩
          have HLN := Lib.hid hLn
          have HO := Lib.hid hO
          have HR := Lib.hid hR
          clear hLn hO hMg hMM hR
          go_wp2_with fail
          go_ret2
          exact ⟨Rm, HLN.out, by omega, RetSS.mk HR.out (HO.out.based hB1.size) (hB1.trans (hbr.mono hB1.size))⟩
end Go.Proofs.Ytnnhgblgbbfmpaa
