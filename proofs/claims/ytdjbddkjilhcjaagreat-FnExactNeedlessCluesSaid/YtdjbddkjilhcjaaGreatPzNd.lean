/- Needless clues: both sides. -/
import Derived.Test.YtdjbddkjilhcjaaGreatPzT2
import Derived.Test.YtdjbddkjilhcjaaGreatGen
import Derived.Test.YtdjbddkjilhcjaaGreatPzN2
set_option linter.all false
namespace Go.Proofs.YtdjbddkjilhcjaaGreat
open Go.RowKit Go.Shelf

noncomputable def ncL (W H : Int) (L : List Sq) (k : Nat) : List Int := ((List.range k).filter fun j => (solV W H (L.eraseIdx j)).length == (solV W H L).length).map (fun (j : Nat) => (j : Int))
theorem ncL_zero (W H : Int) (L : List Sq) : ncL W H L 0 = [] := rfl
theorem ncL_len (W H : Int) (L : List Sq) (k : Nat) : (ncL W H L k).length ≤ k := by
  unfold ncL; rw [List.length_map]; exact Nat.le_trans (List.length_filter_le _ _) (by simp)
theorem ncL_yes {W H : Int} {L : List Sq} {k : Nat} (h : (solV W H (L.eraseIdx k)).length = (solV W H L).length) : ncL W H L (k + 1) = ncL W H L k ++ [(k : Int)] := by
  unfold ncL; rw [List.range_succ, List.filter_append, List.map_append]; simp [h]
theorem ncL_no {W H : Int} {L : List Sq} {k : Nat} (h : ¬ (solV W H (L.eraseIdx k)).length = (solV W H L).length) : ncL W H L (k + 1) = ncL W H L k := by
  unfold ncL; rw [List.range_succ, List.filter_append, List.map_append]; simp [h]
/-- What NeedlessClues returns. -/
noncomputable def ncV (W H : Int) (L : List Sq) : List Int := if dc (GoodP W H L) then ncL W H L L.length else []
theorem ncV_yes {W H : Int} {L : List Sq} (h : GoodP W H L) : ncV W H L = ncL W H L L.length := by unfold ncV; rw [dc_true h]; rfl
theorem ncV_no {W H : Int} {L : List Sq} (h : ¬ GoodP W H L) : ncV W H L = [] := by unfold ncV; rw [dc_false h]; rfl
theorem GoodP.erase {W H : Int} {L : List Sq} (h : GoodP W H L) (k : Nat) : GoodP W H (L.eraseIdx k) :=
  ⟨h.1, by have := h.2.1; have := List.length_eraseIdx_le L k; omega, fun s hs => h.2.2 s (List.mem_of_mem_eraseIdx hs)⟩
theorem kept_solN {W H : Int} {R : List Sq} {Cs : List CV} (hm : Cs.map (·.1) = allF W.toNat H.toNat) (hw : 0 ≤ W) (hh : 0 ≤ H) (hP : GoodP W H R) : (kept W H R Cs).length = (solV W H R).length := by
  obtain ⟨a, rfl⟩ := Int.eq_ofNat_of_zero_le hw
  obtain ⟨b, rfl⟩ := Int.eq_ofNat_of_zero_le hh
  have h : (kept a b R Cs).map (·.1) = solV a b R := by rw [kept_map, hm]; unfold solV; rw [dc_true hP]; rfl
  rw [← h, List.length_map]
theorem cv3_farN {b : Nat} {V V' : World} {x y z : Value} {row : Option Nat} (h : Cv3 b V x y z) (hg : V.grownBy V' row) (hne : row ≠ some b) : Cv3 b V' x y z :=
  ⟨Nat.lt_of_lt_of_le h.lt hg.size, hg.cell h.c0 (fun e => hne e.symm), hg.cell h.c1 (fun e => hne e.symm), hg.cell h.c2 (fun e => hne e.symm)⟩
theorem CL.farN {n0 : Nat} {W H : Int} {Cs : List CV} {sl : Value} {V V' : World} (h : CL n0 W H Cs sl V) {base n : Nat} {o : Value} {xs : List Value} (ho : V.ownsRow base 3 1 o n xs) (hg : V.grownBy V' o.ownBlock) : CL n0 W H Cs sl V' :=
  ⟨own_far h.own hg (fun k hk => rows_ne h.own ho (by decide) k hk), fun x hx => own_far (h.sq x hx) hg (fun k hk => rows_ne (h.sq x hx) ho (by decide) k hk)⟩
set_option maxRecDepth 100000 in
set_option maxHeartbeats 16000000 in
theorem implNc_any (W H : Int) (A : Option Addr) (n c : Nat) (L : List Sq) (w : World) (hl : L.length = n) (hc : n ≤ c) (hc9 : c ≤ 1048576) (hL : SqsAt w w.heap.size A L) :
    Calls Tryz.prog 9 #[.agg #[.int .i64 W, .int .i64 H, .slice A n c]] w (RetInts w (ncV W H L) (dc (GoodP W H L))) := by
  have B0 : Below w.heap.size w (w.alloc (.cells #[.int .i64 W, .int .i64 H, .slice A n c] 31)) := (Below.refl _ _).alloc (Nat.le_refl _) _
  have K0 := Cv3.start w (.int .i64 W) (.int .i64 H) (.slice A n c) 31
  have C := implCountSol_any W H A n c L _ hl (by omega) ((hL.below B0).mono B0.size)
  have hf := sol_few (W := W) (H := H) (L := L)
  by_cases hP : GoodP W H L
  · rw [ncV_yes hP]
    rw [dc_true hP] at C ⊢
    have hn6 : n ≤ 6 := by have := hP.2.1; omega
    obtain ⟨i0, hi, hz0, hz1, hz2⟩ := info_parts infoInt
    have T1 := fun (ab : Addr) (hA : A = some ab) (k : Nat) (hk : k < n) (V : World) (hb : Below w.heap.size w V) => without_any W H ab n c L k V hl hc (by omega) hk (by rw [← hA]; exact (hL.below hb).mono hb.size)
    have TA : ∀ k, k < n → ∃ ab, A = some ab := fun k hk => by
      obtain ⟨b, off, e, -⟩ := hL k _ (List.getElem?_eq_getElem (by omega))
      exact ⟨_, e⟩
    have T2 := fun (k : Nat) (hk : k < n) (A4 : Option Addr) (c4 : Nat) (V : World) (h : SqsAt V V.heap.size A4 (L.eraseIdx k)) => implCountSol_any W H A4 (n - 1) c4 (L.eraseIdx k) V (by rw [List.length_eraseIdx, if_pos (by omega)]; omega) (by omega) h
    have hf2 := fun (k : Nat) => sol_few (W := W) (H := H) (L := L.eraseIdx k)
    have hyes := fun (k : Nat) => ncL_yes (W := W) (H := H) (L := L) (k := k)
    have hno := fun (k : Nat) => ncL_no (W := W) (H := H) (L := L) (k := k)
    obtain ⟨N, hN⟩ : ∃ N, (solV W H L).length = N := ⟨_, rfl⟩
    rw [hN] at C hf
    simp only [hN] at hyes hno
    have HC := Lib.hid C
    have HT1 := Lib.hid T1
    have HTA := Lib.hid TA
    have HT2 := Lib.hid T2
    have HF2 := Lib.hid hf2
    have HY := Lib.hid hyes
    have HNO := Lib.hid hno
    rw [hl]
    clear C T1 TA T2 hf2 hyes hno hP hL hl hN
    go_enter Tryz.func9, Tryz.ntmps9
    go_wp2_with fail
    (with_reducible refine HC.out.mono ?_)
    rintro e w1 ⟨rfl, hb1⟩
    have K1 := K0.next hb1
    have B1 := B0.trans (hb1.mono B0.size)
    obtain ⟨kl, k0, k1, k2⟩ := id K1
    clear K0 B0 hb1 HC
    go_wp2_with fail
    clear kl k0 k1 k2
    go_loopw [6, 20] (fun o i wr => ∃ k : Nat, k ≤ n ∧ i = .int .i64 k ∧ Below w.heap.size w wr ∧ Cv3 w.heap.size wr (.int .i64 W) (.int .i64 H) (.slice A n c) ∧ wr.ownsRow (w.heap.size + 1) 3 1 o (ncL W H L k).length (ints (ncL W H L k))) (fun _ i _ => n - (intOf i).toNat)
    case atStart => exact ⟨0, Nat.zero_le _, rfl, B1, K1, by rw [ncL_zero]; exact World.ownsRow_nil _ _ _ _⟩
    case round =>
      obtain ⟨k, hk, rfl, hbr, hK, hown⟩ := hrel
      have hlen := ncL_len W H L k
      by_cases hlt : k < n
      · obtain ⟨ab, hab⟩ := HTA.out k hlt
        have C1 := HT1.out ab hab k hlt wr hbr
        rw [← hab] at C1
        have C1 := Lib.hid C1
        clear hab
        have hy := HY.out k
        have hno := HNO.out k
        have hfk := HF2.out k
        obtain ⟨M, hM⟩ : ∃ M, (solV W H (L.eraseIdx k)).length = M := ⟨_, rfl⟩
        rw [hM] at hy hno hfk
        have HMM := Lib.hid hM
        have hy := Lib.hid hy
        have hno := Lib.hid hno
        obtain ⟨R, hR⟩ : ∃ R, ncL W H L k = R := ⟨_, rfl⟩
        rw [hR] at hown hlen
        have HR := Lib.hid hR
        obtain ⟨m, hm⟩ : ∃ m, R.length = m := ⟨_, rfl⟩
        rw [hm] at hown hlen
        obtain ⟨Ao, co, rfl⟩ := own_val hown
        have HM2 := Lib.hid hm
        have HO := Lib.hid hown
        obtain ⟨kl, k0, k1, k2⟩ := id hK
        have i1 : (0 : Int) ≤ (k : Int) := by omega
        have i2 : (k : Int) < (n : Int) := by omega
        clear hM hR hm hown
        go_wp2_with fail
        (with_reducible refine C1.out.mono ?_)
        rintro e w2 ⟨A4, c4, rfl, o4, hb2⟩
        have C2 := Lib.hid (HT2.out k hlt A4 c4 w2 (cls_of_own o4))
        rw [HMM.out] at C2
        go_wp2_with fail
        (with_reducible refine C2.out.mono ?_)
        rintro e w3 ⟨rfl, hb3⟩
        have hb23 := hb2.trans (hb3.mono hb2.size)
        have hown3 := own_keep HO.out hb23
        have hbr3 := hbr.trans (hb23.mono hbr.size)
        have hK3 := hK.next hb23
        have hl3 := hK3.lt
        clear kl k0 k1 k2 C1 C2 hb2 hb3 hb23 HO hK o4
        by_cases he : M = N
        · have e1 : ((M : Int) == (N : Int)) = true := by simp; omega
          have e2 : (M : Int) = (N : Int) := by omega
          have HQ := Lib.hid (hy.out he)
          go_wp2_with (at_builtin; refine wpList_append_own _ rfl _ _ 26 rfl (w.heap.size + 1) 3 i0 (.int .i64 0) 1 8 Tryz.underlying26 hi hz0 hz1 hz2 rfl (by decide) _ _ _ rfl (hown3.alloc _) ⟨w3.heap.size, 0, none⟩ 1 1 [.int .i64 k] rfl rfl ?c1 ?c2 ?c3 ?c4 ?c5 ?_)
          case c1 =>
            intro j u hj
            match j, hj with
            | 0, hj => simp at hj; subst hj; simp [Addr.add]
          case c2 => intro u hu; simp at hu; subst hu; rfl
          case c3 => unfold maxLen; omega
          case c4 => omega
          case c5 => simp <;> omega
          intro v' w4 hown4 hgrow _
          have hba := fun o => hbr3.alloc (Nat.le_of_lt hK3.lt) o
          have hB4 : Below w.heap.size w w4 := (hba _).grown hgrow (by simp; omega) (fun k hk => by have := (hown3.lt k hk).1; omega)
          have hK4 : Cv3 w.heap.size w4 (.int .i64 W) (.int .i64 H) (.slice A n c) := cv3_farN (hK3.next ((Below.refl _ w3).alloc (Nat.le_refl _) _)) hgrow (fun e => by have := (hown3.lt _ e).1; omega)
          have HO4 : Hid (w4.ownsRow (w.heap.size + 1) 3 1 v' (ncL W H L (k + 1)).length (ints (ncL W H L (k + 1)))) := by
            show w4.ownsRow _ _ _ _ _ _
            rw [HQ.out, HR.out, ints_app, List.length_append, HM2.out]
            exact hown4
          clear hown3 hown4 hgrow hba
          go_wp2_with fail
          go_roundw
          case rel => exact ⟨k + 1, by omega, by go_num, hB4, hK4, HO4.out⟩
          case measure => simp [intOf]; omega
        · have e1 : ((M : Int) == (N : Int)) = false := by simp; omega
          have e2 : ¬ (M : Int) = (N : Int) := by omega
          have HQ := Lib.hid (hno.out he)
          have HO4 : Hid (w3.ownsRow (w.heap.size + 1) 3 1 (.slice Ao m co) (ncL W H L (k + 1)).length (ints (ncL W H L (k + 1)))) := by
            show w3.ownsRow _ _ _ _ _ _
            rw [HQ.out, HR.out, HM2.out]
            exact hown3
          clear hown3
          go_wp2_with fail
          go_roundw
          case rel => exact ⟨k + 1, by omega, by go_num, hbr3, hK3, HO4.out⟩
          case measure => simp [intOf]; omega
      · obtain rfl : k = n := by omega
        obtain ⟨A', c', rfl⟩ := own_val hown
        go_wp2_with fail
        go_ret2
        exact RetInts.mk rfl (own_base hown (Nat.le_succ _)) hbr
  · rw [ncV_no hP]
    rw [dc_false hP] at C ⊢
    obtain ⟨N, hN⟩ : ∃ N, (solV W H L).length = N := ⟨_, rfl⟩
    rw [hN] at C hf
    have HC := Lib.hid C
    clear C hP hL hl hN
    go_enter Tryz.func9, Tryz.ntmps9
    go_wp2_with fail
    (with_reducible refine HC.out.mono ?_)
    rintro e w1 ⟨rfl, hb1⟩
    go_wp2_with fail
    go_ret2
    exact RetInts.none_ (B0.trans (hb1.mono B0.size))
set_option maxRecDepth 100000 in
set_option maxHeartbeats 16000000 in
theorem specNc_yes (W H : Nat) (A : Option Addr) (n c : Nat) (L : List Sq) (w : World) (hl : L.length = n) (hc : n ≤ c) (hc9 : c ≤ 1048576) (hL : SqsAt w w.heap.size A L) (hP : GoodP W H L) :
    Calls Tryz.prog 7 #[.agg #[.int .i64 W, .int .i64 H, .slice A n c]] w (RetInts w (ncV W H L) (dc (GoodP W H L))) := by
  have hok := hP.1
  have hokL := okP_okL hok
  have hn6 : n ≤ 6 := by have := hP.2.1; omega
  have B0 : Below w.heap.size w (w.alloc (.cells #[.int .i64 W, .int .i64 H, .slice A n c] 31)) := (Below.refl _ _).alloc (Nat.le_refl _) _
  have K0 := Cv3.start w (.int .i64 W) (.int .i64 H) (.slice A n c) 31
  have C0 := Lib.hid (callB_yes (pzGood_any W H A n c L _ hl (by omega) ((hL.below B0).mono B0.size)) hP)
  rw [ncV_yes hP, dc_true hP, hl]
  obtain ⟨i0, hi, hz0, hz1, hz2⟩ := info_parts infoInt
  have hf := sol_few (W := W) (H := H) (L := L)
  obtain ⟨kl, k0, k1, k2⟩ := id K0
  go_enter Tryz.func7, Tryz.ntmps7
  go_wp2_with fail
  (with_reducible refine C0.out.mono ?_)
  rintro e w1 ⟨rfl, hb⟩
  clear kl k0 k1 k2 C0
  have K1 := K0.next hb
  have B1 := B0.trans (hb.mono B0.size)
  clear K0 B0 hb
  obtain ⟨kl, k0, k1, k2⟩ := id K1
  have C1 := Lib.hid (ofSize_any W H hok A n c w1)
  go_wp2_with fail
  (with_reducible refine C1.out.mono ?_)
  rintro e w2 ⟨A1, c1, Cs, rfl, hmC, hcl, hb⟩
  have K2 := K1.next hb
  have B2 := B1.trans (hb.mono B1.size)
  have hn1 := hb.size
  obtain ⟨n1, hn1e⟩ : ∃ n1, w1.heap.size = n1 := ⟨_, rfl⟩
  rw [hn1e] at hcl hn1
  have hfew : Cs.length ≤ 65536 := by have := congrArg List.length hmC; rw [List.length_map] at this; rw [this]; exact allF_few hokL
  have TP : ∀ (R : List Sq) (_ : GoodP W H R) (n' : Nat) (_ : R.length = n') (Ax : Option Addr) (cx : Nat) (V : World) (_ : n1 ≤ V.heap.size) (_ : CL n1 W H Cs (.slice A1 Cs.length c1) V) (_ : SqsAt V V.heap.size Ax R), Calls Tryz.prog 23 #[.slice A1 Cs.length c1, .slice Ax n' cx] V fun e w' => ∃ A' c', e = .returned (.slice A' (solV W H R).length c') ∧ Below V.heap.size V w' := fun R hPR n' hln Ax cx V hn hcl hx => by
    refine (pzAll_any W H n1 A1 c1 Cs Ax n' cx R V hn hfew hcl (fun x hx => allF_good hokL _ (by rw [← hmC]; exact List.mem_map_of_mem hx)) hln (by have := hPR.2.1; omega) hx hPR.ask).mono ?_
    rintro e w' ⟨A', c', rfl, -, hb'⟩
    exact ⟨A', c', by rw [kept_solN (W := W) (H := H) (by simpa using hmC) (by omega) (by omega) hPR], hb'⟩
  have T1 := fun (k : Nat) (hk : k < n) (ab : Addr) (hA : A = some ab) (V : World) (hb : Below w.heap.size w V) => pzWithout_any ab n c L k V hl hc (by omega) hk (by rw [← hA]; exact (hL.below hb).mono hb.size)
  have TA : ∀ k, k < n → ∃ ab, A = some ab := fun k hk => by
    obtain ⟨b, off, e, -⟩ := hL k _ (List.getElem?_eq_getElem (by omega))
    exact ⟨_, e⟩
  have T2 := fun (k : Nat) (hk : k < n) => TP (L.eraseIdx k) (hP.erase k) (n - 1) (by rw [List.length_eraseIdx, if_pos (by omega)]; omega)
  have T0 := TP L hP n hl A c w2 hn1 hcl ((hL.below B2).mono B2.size)
  have hyes := fun (k : Nat) => ncL_yes (W := W) (H := H) (L := L) (k := k)
  have hno := fun (k : Nat) => ncL_no (W := W) (H := H) (L := L) (k := k)
  obtain ⟨N, hN⟩ : ∃ N, (solV W H L).length = N := ⟨_, rfl⟩
  rw [hN] at T0 hf
  simp only [hN] at hyes hno
  obtain ⟨p, hp⟩ : ∃ p, Cs.length = p := ⟨_, rfl⟩
  rw [hp] at hcl hfew T0 ⊢
  simp only [hp] at T2
  have HT0 := Lib.hid T0
  have HT1 := Lib.hid T1
  have HTA := Lib.hid TA
  have HT2 := Lib.hid T2
  have HY := Lib.hid hyes
  have HNO := Lib.hid hno
  clear TP T0 T1 TA T2 hyes hno hmC hokL hok hP hL hb kl k0 k1 k2 K1 B1 hp hl hN
  obtain ⟨kl, k0, k1, k2⟩ := id K2
  go_wp2_with fail
  (with_reducible refine HT0.out.mono ?_)
  rintro e w2' ⟨A2, c2, rfl, hb⟩
  replace K2 := K2.next hb
  replace B2 := B2.trans (hb.mono B2.size)
  replace hcl := hcl.keep hb
  replace hn1 : n1 ≤ w2'.heap.size := Nat.le_trans hn1 hb.size
  clear kl k0 k1 k2 hb HT0
  obtain ⟨kl, k0, k1, k2⟩ := id K2
  go_wp2_with fail
  clear kl k0 k1 k2
  go_loopw [4, 21] (fun o i wr => ∃ k : Nat, k ≤ n ∧ i = .int .i64 k ∧ Below w.heap.size w wr ∧ Cv3 w.heap.size wr (.int .i64 W) (.int .i64 H) (.slice A n c) ∧ n1 ≤ wr.heap.size ∧ CL n1 W H Cs (.slice A1 p c1) wr ∧ wr.ownsRow (w.heap.size + 1) 3 1 o (ncL W H L k).length (ints (ncL W H L k))) (fun _ i _ => n - (intOf i).toNat)
  case atStart => exact ⟨0, Nat.zero_le _, rfl, B2, K2, hn1, hcl, by rw [ncL_zero]; exact World.ownsRow_nil _ _ _ _⟩
  case round =>
    obtain ⟨k, hk, rfl, hbr, hK, hnr, hclr, hown⟩ := hrel
    have hlen := ncL_len W H L k
    by_cases hlt : k < n
    · obtain ⟨ab, hab⟩ := HTA.out k hlt
      have C1 := HT1.out k hlt ab hab wr hbr
      rw [← hab] at C1
      have C1 := Lib.hid C1
      clear hab
      have hy := HY.out k
      have hno := HNO.out k
      have C2 := HT2.out k hlt
      obtain ⟨M, hM⟩ : ∃ M, (solV W H (L.eraseIdx k)).length = M := ⟨_, rfl⟩
      rw [hM] at hy hno
      simp only [hM] at C2
      have HC2 := Lib.hid C2
      have hy := Lib.hid hy
      have hno := Lib.hid hno
      obtain ⟨R, hR⟩ : ∃ R, ncL W H L k = R := ⟨_, rfl⟩
      rw [hR] at hown hlen
      have HR := Lib.hid hR
      obtain ⟨m, hm⟩ : ∃ m, R.length = m := ⟨_, rfl⟩
      rw [hm] at hown hlen
      obtain ⟨Ao, co, rfl⟩ := own_val hown
      have HM2 := Lib.hid hm
      have HO := Lib.hid hown
      have HCL := Lib.hid hclr
      obtain ⟨kl, k0, k1, k2⟩ := id hK
      have i1 : (0 : Int) ≤ (k : Int) := by omega
      have i2 : (k : Int) < (n : Int) := by omega
      clear hM hR hm hown C2 hclr
      go_wp2_with fail
      (with_reducible refine C1.out.mono ?_)
      rintro e w2 ⟨A4, c4, rfl, o4, hb2⟩
      have C3 := Lib.hid (HC2.out A4 c4 w2 (Nat.le_trans hnr hb2.size) (HCL.out.keep hb2) (cls_of_own o4))
      go_wp2_with fail
      (with_reducible refine C3.out.mono ?_)
      rintro e w3 ⟨A5, c5, rfl, hb3⟩
      have hb23 := hb2.trans (hb3.mono hb2.size)
      have hown3 := own_keep HO.out hb23
      have hbr3 := hbr.trans (hb23.mono hbr.size)
      have hK3 := hK.next hb23
      have hCL3 := HCL.out.keep hb23
      have hl3 := hK3.lt
      have hs3 := hb23.size
      clear kl k0 k1 k2 C1 C3 hb2 hb3 hb23 HO hK o4 HCL
      by_cases he : M = N
      · have e1 : ((M : Int) == (N : Int)) = true := by simp; omega
        have e2 : (M : Int) = (N : Int) := by omega
        have HQ := Lib.hid (hy.out he)
        go_wp2_with (at_builtin; refine wpList_append_own _ rfl _ _ 26 rfl (w.heap.size + 1) 3 i0 (.int .i64 0) 1 8 Tryz.underlying26 hi hz0 hz1 hz2 rfl (by decide) _ _ _ rfl (hown3.alloc _) ⟨w3.heap.size, 0, none⟩ 1 1 [.int .i64 k] rfl rfl ?c1 ?c2 ?c3 ?c4 ?c5 ?_)
        case c1 =>
          intro j u hj
          match j, hj with
          | 0, hj => simp at hj; subst hj; simp [Addr.add]
        case c2 => intro u hu; simp at hu; subst hu; rfl
        case c3 => unfold maxLen; omega
        case c4 => omega
        case c5 => simp <;> omega
        intro v' w4 hown4 hgrow _
        have hba := fun o => hbr3.alloc (Nat.le_of_lt hK3.lt) o
        have hB4 : Below w.heap.size w w4 := (hba _).grown hgrow (by simp; omega) (fun k hk => by have := (hown3.lt k hk).1; omega)
        have hK4 : Cv3 w.heap.size w4 (.int .i64 W) (.int .i64 H) (.slice A n c) := cv3_farN (hK3.next ((Below.refl _ w3).alloc (Nat.le_refl _) _)) hgrow (fun e => by have := (hown3.lt _ e).1; omega)
        have hCL4 := (hCL3.keep ((Below.refl _ w3).alloc (Nat.le_refl _) _)).farN (hown3.alloc _) hgrow
        have hs4 : n1 ≤ w4.heap.size := by have := hgrow.size; simp at this; omega
        have HO4 : Hid (w4.ownsRow (w.heap.size + 1) 3 1 v' (ncL W H L (k + 1)).length (ints (ncL W H L (k + 1)))) := by
          show w4.ownsRow _ _ _ _ _ _
          rw [HQ.out, HR.out, ints_app, List.length_append, HM2.out]
          exact hown4
        clear hown3 hown4 hgrow hba hCL3
        go_wp2_with fail
        go_roundw
        case rel => exact ⟨k + 1, by omega, by go_num, hB4, hK4, hs4, hCL4, HO4.out⟩
        case measure => simp [intOf]; omega
      · have e1 : ((M : Int) == (N : Int)) = false := by simp; omega
        have e2 : ¬ (M : Int) = (N : Int) := by omega
        have HQ := Lib.hid (hno.out he)
        have HO4 : Hid (w3.ownsRow (w.heap.size + 1) 3 1 (.slice Ao m co) (ncL W H L (k + 1)).length (ints (ncL W H L (k + 1)))) := by
          show w3.ownsRow _ _ _ _ _ _
          rw [HQ.out, HR.out, HM2.out]
          exact hown3
        clear hown3
        go_wp2_with fail
        go_roundw
        case rel => exact ⟨k + 1, by omega, by go_num, hbr3, hK3, by omega, hCL3, HO4.out⟩
        case measure => simp [intOf]; omega
    · obtain rfl : k = n := by omega
      obtain ⟨A', c', rfl⟩ := own_val hown
      clear hclr
      go_wp2_with fail
      go_ret2
      exact RetInts.mk rfl (own_base hown (Nat.le_succ _)) hbr
set_option maxRecDepth 100000 in
set_option maxHeartbeats 16000000 in
theorem specNc_any (W H : Int) (A : Option Addr) (n c : Nat) (L : List Sq) (w : World) (hl : L.length = n) (hc : n ≤ c) (hc9 : c ≤ 1048576) (hL : SqsAt w w.heap.size A L) :
    Calls Tryz.prog 7 #[.agg #[.int .i64 W, .int .i64 H, .slice A n c]] w (RetInts w (ncV W H L) (dc (GoodP W H L))) := by
  by_cases hP : GoodP W H L
  · obtain ⟨a, rfl⟩ := Int.eq_ofNat_of_zero_le (show 0 ≤ W by have := hP.size; omega)
    obtain ⟨b, rfl⟩ := Int.eq_ofNat_of_zero_le (show 0 ≤ H by have := hP.size; omega)
    exact specNc_yes a b A n c L w hl hc hc9 hL hP
  · have B0 : Below w.heap.size w (w.alloc (.cells #[.int .i64 W, .int .i64 H, .slice A n c] 31)) := (Below.refl _ _).alloc (Nat.le_refl _) _
    have C0 := Lib.hid (callB_no (pzGood_any W H A n c L _ hl (by omega) ((hL.below B0).mono B0.size)) hP)
    rw [ncV_no hP, dc_false hP]
    clear hP hL hl
    go_enter Tryz.func7, Tryz.ntmps7
    go_wp2_with fail
    (with_reducible refine C0.out.mono ?_)
    rintro e w1 ⟨rfl, hb1⟩
    go_wp2_with fail
    go_ret2
    exact RetInts.none_ (B0.trans (hb1.mono B0.size))
end Go.Proofs.YtdjbddkjilhcjaaGreat
