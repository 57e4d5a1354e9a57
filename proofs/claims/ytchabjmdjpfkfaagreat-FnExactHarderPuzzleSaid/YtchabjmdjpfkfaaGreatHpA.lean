/- PzHp, PzHs, PzHi, PzHl: texts in one. -/
import Derived.Test.YtchabjmdjpfkfaaGreatPzT2
import Derived.Test.YtchabjmdjpfkfaaGreatSuA
import Derived.Deep.DeepCutAuto
set_option linter.all false
namespace Go.Proofs.YtchabjmdjpfkfaaGreat
open Go.RowKit

/-- A puzzle with these clues is solved. -/
noncomputable def svd (W H : Int) (R : List Sq) : Bool := decide ((solV W H R).length = 1)
/-- What is kept of the first k clues, each clue that the puzzle without it isn't solved by. -/
noncomputable def hpL (W H : Int) (L : List Sq) : Nat → List Sq
  | 0 => []
  | k + 1 => match L[k]? with
    | none => hpL W H L k
    | some s => if svd W H (hpL W H L k ++ L.drop (k + 1)) then hpL W H L k else hpL W H L k ++ [s]
theorem hpL_yes {W H : Int} {L : List Sq} {k : Nat} {s : Sq} (hs : L[k]? = some s) (h : (solV W H (hpL W H L k ++ L.drop (k + 1))).length = 1) : hpL W H L (k + 1) = hpL W H L k := by
  rw [hpL, hs]; simp [svd, h]
theorem hpL_no {W H : Int} {L : List Sq} {k : Nat} {s : Sq} (hs : L[k]? = some s) (h : ¬ (solV W H (hpL W H L k ++ L.drop (k + 1))).length = 1) : hpL W H L (k + 1) = hpL W H L k ++ [s] := by
  rw [hpL, hs]; simp [svd, h]
theorem hpL_len (W H : Int) (L : List Sq) (k : Nat) : (hpL W H L k).length ≤ k := by
  induction k with
  | zero => simp [hpL]
  | succ k ih =>
    rw [hpL]
    cases L[k]? with
    | none => simp only; omega
    | some s =>
      simp only
      split
      · omega
      · rw [List.length_append, List.length_singleton]; omega
theorem hpL_mem {W H : Int} {L : List Sq} {k : Nat} : ∀ s ∈ hpL W H L k, s ∈ L := by
  induction k with
  | zero => intro s hs; simp [hpL] at hs
  | succ k ih =>
    rw [hpL]
    cases e : L[k]? with
    | none => simpa only using ih
    | some x =>
      simp only
      split
      · exact ih
      · intro s hs
        rcases List.mem_append.1 hs with h | h
        · exact ih s h
        · rw [List.mem_singleton.1 h]; exact List.mem_of_getElem? e
theorem GoodP.kept {W H : Int} {L : List Sq} (h : GoodP W H L) (k j : Nat) (hj : k ≤ j) (hkn : k ≤ L.length) : GoodP W H (hpL W H L k ++ L.drop j) :=
  ⟨h.1, by have := h.2.1; have := hpL_len W H L k; rw [List.length_append, List.length_drop]; omega, fun s hs => by
    rcases List.mem_append.1 hs with hs | hs
    · exact h.2.2 s (hpL_mem s hs)
    · exact h.2.2 s (List.mem_of_mem_drop hs)⟩
/-- The model takes clue (what is kept).length out of what is kept and the rest. -/
theorem hp_erase {P L : List Sq} {k : Nat} (hk : k < L.length) : (P ++ L.drop k).eraseIdx P.length = P ++ L.drop (k + 1) := by
  rw [List.eraseIdx_append_of_length_le (Nat.le_refl _), Nat.sub_self, List.drop_eq_getElem_cons hk]; rfl
theorem hp_step {P L : List Sq} {k : Nat} {s : Sq} (hs : L[k]? = some s) : P ++ L.drop k = (P ++ [s]) ++ L.drop (k + 1) := by
  obtain ⟨hk, e⟩ := List.getElem?_eq_some_iff.1 hs
  rw [List.drop_eq_getElem_cons hk, e]; simp
def HpOk (W H : Int) (L : List Sq) : Prop := GoodP W H L ∧ (solV W H L).length = 1
noncomputable def hpV (W H : Int) (L : List Sq) : Int × Int × List Sq × Bool := if dc (HpOk W H L) then (W, H, hpL W H L L.length, true) else (0, 0, [], false)
theorem hpV_yes {W H : Int} {L : List Sq} (h : HpOk W H L) : hpV W H L = (W, H, hpL W H L L.length, true) := by unfold hpV; rw [dc_true h]; rfl
theorem hpV_no {W H : Int} {L : List Sq} (h : ¬ HpOk W H L) : hpV W H L = (0, 0, [], false) := by unfold hpV; rw [dc_false h]; rfl
theorem hpV_len (W H : Int) (L : List Sq) : (hpV W H L).2.2.1.length ≤ 30 := by
  by_cases h : HpOk W H L
  · rw [hpV_yes h]; have := h.1.2.1; have := hpL_len W H L L.length; simp only; omega
  · rw [hpV_no h]; simp
end Go.Proofs.YtchabjmdjpfkfaaGreat
namespace Go.Proofs.YtchabjmdjpfkfaaGreat
open Go.RowKit Go.Shelf

theorem CL.farC {n0 : Nat} {W H : Int} {Cs : List CV} {sl : Value} {V V' : World} (h : CL n0 W H Cs sl V) {base n : Nat} {o : Value} {xs : List Value} (ho : V.ownsRow base 60 3 o n xs) (hg : V.grownBy V' o.ownBlock) : CL n0 W H Cs sl V' :=
  ⟨own_far h.own hg (fun k hk => rows_ne h.own ho (by decide) k hk), fun x hx => own_far (h.sq x hx) hg (fun k hk => rows_ne (h.sq x hx) ho (by decide) k hk)⟩
set_option maxRecDepth 100000 in
set_option maxHeartbeats 16000000 in
theorem specHp_yes (W H : Nat) (A : Option Addr) (n c : Nat) (L : List Sq) (w : World) (hl : L.length = n) (hc : n ≤ c) (hc9 : c ≤ 1048576) (hA : A = none → c = 0) (hL : SqsAt w w.heap.size A L) (hP : GoodP W H L) :
    Calls Tryz.prog 14 #[.agg #[.int .i64 W, .int .i64 H, .slice A n c]] w (RetPuzzle w (hpV W H L).1 (hpV W H L).2.1 (hpV W H L).2.2.1 (hpV W H L).2.2.2) := by
  obtain ⟨W1, hW1⟩ : ∃ W1, W1 = (w.alloc (.cells #[.int .i64 W, .int .i64 H, .slice A n c] 31)).alloc (.cells #[.int .i64 0, .int .i64 0, .slice none 0 0] 31) := ⟨_, rfl⟩
  have Z1 : DZ w W1 W H A n c := by rw [hW1]; exact DZ.start w W H A n c
  have hL1 := (hL.below Z1.bel).mono Z1.bel.size
  have hok := hP.1
  have hokL := okP_okL hok
  have hn6 : n ≤ 6 := by have := hP.2.1; omega
  have C0 := Lib.hid (callB_yes (pzGood_any W H A n c L W1 hl (by omega) hL1) hP)
  have hf := sol_few (W := W) (H := H) (L := L)
  obtain ⟨i0, hi, hz0, hz1, hz2⟩ := info_parts infoCl
  go_enter Tryz.func14, Tryz.ntmps14
  go_wp2_with fail
  rw [← hW1]
  clear hW1
  (with_reducible refine C0.out.mono ?_)
  rintro e w1 ⟨rfl, hb⟩
  have Z2 := Z1.keep hb
  clear hb Z1 C0
  obtain ⟨kl, k0, k1, k2⟩ := id Z2.P
  obtain ⟨rl, r0, r1, r2⟩ := id Z2.R
  have f0 := Z2.fz 0
  have f1 := Z2.fz 1
  have f2 := Z2.fz 2
  have hbf := Z2.bel
  have C1 := Lib.hid (ofSize_any W H hok A n c w1)
  go_wp2_with fail
  (with_reducible refine C1.out.mono ?_)
  rintro e w2 ⟨A1, c1, Cs, rfl, hmC, hcl, hb⟩
  have Z3 := Z2.keep hb
  have hn1 := hb.size
  have hs1 : w.heap.size + 1 < w1.heap.size := rl
  clear kl k0 k1 k2 rl r0 r1 r2 f0 f1 f2 hbf
  obtain ⟨n1, hn1e⟩ : ∃ n1, w1.heap.size = n1 := ⟨_, rfl⟩
  rw [hn1e] at hcl hn1 hs1
  clear hb Z2 C1
  have hfew : Cs.length ≤ 65536 := by have := congrArg List.length hmC; rw [List.length_map] at this; rw [this]; exact allF_few hokL
  have TP : ∀ (R : List Sq) (_ : GoodP W H R) (n' : Nat) (_ : R.length = n') (Ax : Option Addr) (cx : Nat) (V : World) (_ : n1 ≤ V.heap.size) (_ : CL n1 W H Cs (.slice A1 Cs.length c1) V) (_ : SqsAt V V.heap.size Ax R), Calls Tryz.prog 19 #[.slice A1 Cs.length c1, .slice Ax n' cx] V fun e w' => ∃ A' c', e = .returned (.slice A' (solV W H R).length c') ∧ Below V.heap.size V w' := fun R hPR n' hln Ax cx V hn hcl hx => by
    refine (pzAll_any W H n1 A1 c1 Cs Ax n' cx R V hn hfew hcl (fun x hx => allF_good hokL _ (by rw [← hmC]; exact List.mem_map_of_mem hx)) hln (by have := hPR.2.1; omega) hx hPR.ask).mono ?_
    rintro e w' ⟨A', c', rfl, -, hb'⟩
    exact ⟨A', c', by rw [kept_solN (W := W) (H := H) (by simpa using hmC) (by omega) (by omega) hPR], hb'⟩
  have T0 := TP L hP n hl A c w2 hn1 hcl ((hL.below Z3.bel).mono Z3.bel.size)
  have TG : ∀ k, k < n → GoodP W H (hpL W H L k ++ L.drop (k + 1)) := fun k hk => hP.kept k (k + 1) (Nat.le_succ _) (by omega)
  have TL := fun (V : World) (hb : Below w.heap.size w V) => (hL.below hb).mono hb.size
  obtain ⟨N, hN⟩ : ∃ N, (solV W H L).length = N := ⟨_, rfl⟩
  rw [hN] at T0 hf
  obtain ⟨p, hp⟩ : ∃ p, Cs.length = p := ⟨_, rfl⟩
  rw [hp] at hcl hfew T0 TP ⊢
  have HT0 := Lib.hid T0
  have HTP := Lib.hid TP
  have HTG := Lib.hid TG
  have HTL := Lib.hid TL
  have HP := Lib.hid hP
  have HN := Lib.hid hN
  have HL := Lib.hid hl
  clear TP T0 TG TL hmC hokL hok hP hL hL1 hp hN
  obtain ⟨kl, k0, k1, k2⟩ := id Z3.P
  obtain ⟨rl, r0, r1, r2⟩ := id Z3.R
  have f0 := Z3.fz 0
  have f1 := Z3.fz 1
  have f2 := Z3.fz 2
  have hbf := Z3.bel
  by_cases h1 : N = 1
  · have q1 : ((N : Int) != 1) = false := by simp; omega
    have q2 : (N : Int) = 1 := by omega
    have HV := Lib.hid (hpV_yes (W := W) (H := H) (L := L) ⟨HP.out, by rw [HN.out]; exact h1⟩)
    go_wp2_with fail
    (with_reducible refine HT0.out.mono ?_)
    rintro e w3 ⟨A2, c2, rfl, hb⟩
    have Z4 := Z3.keep hb
    have hcl3 := hcl.keep hb
    have hn3 : n1 ≤ w3.heap.size := Nat.le_trans hn1 hb.size
    have hs3 : w.heap.size + 2 ≤ w3.heap.size := by omega
    have hc3 : 0 + n ≤ maxLen := by unfold maxLen; omega
    have hc4 : (0 + n) * 24 ≤ 140737488355328 := by omega
    clear kl k0 k1 k2 rl r0 r1 r2 f0 f1 f2 hbf
    clear hb Z3 hcl HT0
    obtain ⟨kl, k0, k1, k2⟩ := id Z4.P
    obtain ⟨rl, r0, r1, r2⟩ := id Z4.R
    have f0 := Z4.fz 0
    have f1 := Z4.fz 1
    have f2 := Z4.fz 2
    have hbf := Z4.bel
    have hba : ∀ o, Below w3.heap.size w3 (w3.alloc o) := fun o => (Below.refl _ _).alloc (Nat.le_refl _) o
    go_wp2_with (at_builtin; refine app_list rfl _ _ _ rfl w3.heap.size 60 i0 (.agg #[.int .i64 0, .int .i64 0, .int .i64 0]) 3 24 Tryz.underlying29 hi hz0 hz1 hz2 rfl (by decide) (.slice (some ⟨_, 0, none⟩) 0 0) 0 [] rfl (lit_at3 w3 w3 _ rfl (Nat.le_refl _)) A n c (flat L) rfl (by rw [flat_len, hl]) (src_sqsA (HTL.out _ (Z4.bel.trans ((hba _).mono Z4.bel.size))) hl hc hA) (flat_one _) hc3 hc4 (hba _).size ?_; intro v6 w6 hown6 hgr6 _; rw [Nat.zero_add, List.nil_append] at hown6; obtain ⟨A6, c6, rfl⟩ := own_val hown6)
    have hb6 : Below w3.heap.size w3 w6 := (hba _).grown hgr6 (hba _).size (fun k hk => by simp [Value.ownBlock] at hk; omega)
    have hcl6 := (hcl3.keep (hba _)).farC (lit_at3 w3 w3 _ rfl (Nat.le_refl _)) hgr6
    have Z6 := Z4.keep hb6
    have hn6' : n1 ≤ w6.heap.size := Nat.le_trans hn3 hb6.size
    have HO6 := Lib.hid (own_base hown6 hs3)
    have hlen0 : (hpL W H L 0 ++ L.drop 0) = L := by simp [hpL]
    clear kl k0 k1 k2 rl r0 r1 r2 f0 f1 f2 hbf
    clear hgr6 hown6 hcl3 Z4 hb6 hn3
    obtain ⟨kl, k0, k1, k2⟩ := id Z6.P
    obtain ⟨rl, r0, r1, r2⟩ := id Z6.R
    have f0 := Z6.fz 0
    have f1 := Z6.fz 1
    have f2 := Z6.fz 2
    have hbf := Z6.bel
    go_wp2_with fail
    clear kl k0 k1 k2 rl r0 r1 r2 f0 f1 f2 hbf
    go_loopw [5, 6] (fun v i wr => ∃ (k : Nat) (A' : Option Addr) (c' m : Nat), k ≤ n ∧ i = .int .i64 (hpL W H L k).length ∧ v = .slice A' m c' ∧ m = (hpL W H L k ++ L.drop k).length ∧ DZ w wr W H A n c ∧ n1 ≤ wr.heap.size ∧ CL n1 W H Cs (.slice A1 p c1) wr ∧ wr.ownsRow (w.heap.size + 2) 60 3 (.slice A' m c') m (flat (hpL W H L k ++ L.drop k))) (fun v i _ => (match v with | .slice _ m _ => m | _ => 0) - (intOf i).toNat)
    case atStart => exact ⟨0, A6, c6, n, Nat.zero_le _, by simp [hpL], rfl, by rw [hlen0, hl], Z6, hn6', hcl6, by rw [hlen0]; exact HO6.out⟩
    case round =>
      obtain ⟨k, A', c', m, hk, rfl, rfl, hm, hZ, hnr, hclr, hown⟩ := hrel
      have hPl := hpL_len W H L k
      by_cases hlt : k < n
      · obtain ⟨s, hs⟩ : ∃ s, L[k]? = some s := ⟨_, List.getElem?_eq_getElem (by omega)⟩
        have hy := fun h => hpL_yes (W := W) (H := H) hs h
        have hno := fun h => hpL_no (W := W) (H := H) hs h
        have hst := hp_step (P := hpL W H L k) hs
        have her := hp_erase (P := hpL W H L k) (L := L) (k := k) (by omega)
        have hG := HTG.out k hlt
        obtain ⟨P, hP⟩ : ∃ P, hpL W H L k = P := ⟨_, rfl⟩
        rw [hP] at hm hown hPl hy hno hst her hG ⊢
        have HPP := Lib.hid hP
        rw [List.length_append, List.length_drop, hl] at hm
        obtain ⟨j, hj⟩ : ∃ j, P.length = j := ⟨_, rfl⟩
        rw [hj] at hm hPl her ⊢
        have HJ := Lib.hid hj
        obtain ⟨g, rfl⟩ := own_form hown (by omega)
        have hcap := own_cap hown
        have C1 := pzWithout_any ⟨g, 0, none⟩ m c' (P ++ L.drop k) j wr (by rw [List.length_append, List.length_drop, hl, hj]; omega) hcap (by omega) (by omega) (cls_of_own hown)
        rw [her] at C1
        have hR1 : (P ++ L.drop (k + 1)).length = m - 1 := by rw [List.length_append, List.length_drop, hl, hj]; omega
        obtain ⟨R, hR⟩ : ∃ R, P ++ L.drop (k + 1) = R := ⟨_, rfl⟩
        rw [hR] at C1 hy hno hG hR1
        have C2 := HTP.out R hG (m - 1) hR1
        obtain ⟨M, hM⟩ : ∃ M, (solV W H R).length = M := ⟨_, rfl⟩
        rw [hM] at hy hno
        simp only [hM] at C2
        have hfm := sol_few (W := W) (H := H) (L := R)
        rw [hM] at hfm
        have HC1 := Lib.hid C1
        have HC2 := Lib.hid C2
        have HY := Lib.hid hy
        have HNO := Lib.hid hno
        have HST := Lib.hid hst
        have HRR := Lib.hid hR
        have HO := Lib.hid hown
        have HCL := Lib.hid hclr
        have HR1 := Lib.hid hR1
        have i1 : (j : Int) < (m : Int) := by omega
        have i2 : (0 : Int) ≤ (j : Int) := by omega
        obtain ⟨kl, k0, k1, k2⟩ := id hZ.P
        obtain ⟨rl, r0, r1, r2⟩ := id hZ.R
        have f0 := hZ.fz 0
        have f1 := hZ.fz 1
        have f2 := hZ.fz 2
        have hbf := hZ.bel
        have HMEQ := Lib.hid hm
        clear C1 C2 hy hno hst hR hown hclr hM hP hj hG her hs hR1 hm
        go_wp2_with fail
        (with_reducible refine HC1.out.mono ?_)
        rintro e w2 ⟨A4, c4, rfl, o4, hb2⟩
        have C3 := Lib.hid (HC2.out A4 c4 w2 (Nat.le_trans hnr hb2.size) (HCL.out.keep hb2) (cls_of_own o4))
        go_wp2_with fail
        (with_reducible refine C3.out.mono ?_)
        rintro e w3' ⟨A5, c5, rfl, hb3⟩
        have hb23 := hb2.trans (hb3.mono hb2.size)
        have hZ3 := hZ.keep hb23
        have hCL3 := HCL.out.keep hb23
        have hnr3 : n1 ≤ w3'.heap.size := Nat.le_trans hnr hb23.size
        have hszr : w.heap.size + 2 ≤ wr.heap.size := by have := hZ.R.lt; omega
        have own4 := Lib.hid (own_base (own_keep o4 hb3) hszr)
        have ownr := Lib.hid (own_keep HO.out hb23)
        clear kl k0 k1 k2 rl r0 r1 r2 f0 f1 f2 hbf
        clear HC1 HC2 C3 HO HCL hb2 hb3 hb23 hZ o4
        by_cases he : M = 1
        · have e1 : ((M : Int) == 1) = true := by simp; omega
          have e2 : (M : Int) = 1 := by omega
          have HQ := Lib.hid (HY.out he)
          go_wp2_with fail
          go_roundw
          case rel => exact ⟨k + 1, A4, c4, m - 1, by omega, by rw [HQ.out, HJ.out], rfl, by rw [HQ.out, HRR.out, HR1.out], hZ3, hnr3, hCL3, by rw [HQ.out, HRR.out]; exact own4.out⟩
          case measure => simp [intOf]; omega
        · have e1 : ((M : Int) == 1) = false := by simp; omega
          have e2 : ¬ (M : Int) = 1 := by omega
          have HQ := Lib.hid (HNO.out he)
          go_wp2_with fail
          go_roundw
          case rel => exact ⟨k + 1, some ⟨g, 0, none⟩, c', m, by omega, by rw [HQ.out, List.length_append, HJ.out]; go_num, rfl, by rw [HQ.out, ← HST.out, List.length_append, List.length_drop, hl, HJ.out]; exact HMEQ.out, hZ3, hnr3, hCL3, by rw [HQ.out, ← HST.out]; exact ownr.out⟩
          case measure => simp [intOf]; omega
      · obtain rfl : k = n := by omega
        have hd : L.drop k = [] := List.drop_eq_nil_of_le (by omega)
        rw [hd, List.append_nil] at hm hown
        obtain ⟨P, hP⟩ : ∃ P, hpL W H L k = P := ⟨_, rfl⟩
        rw [hP] at hm hown hPl ⊢
        have HPP := Lib.hid hP
        subst hm
        have HO := Lib.hid hown
        obtain ⟨kl, k0, k1, k2⟩ := id hZ.P
        obtain ⟨rl, r0, r1, r2⟩ := id hZ.R
        have f0 := hZ.fz 0
        have f1 := hZ.fz 1
        have f2 := hZ.fz 2
        have hbf := hZ.bel
        clear hown hclr hP hd
        go_wp2_with fail
        (with_reducible refine (pzWith_any _ _ _ _ _ _ _ _ _).mono ?_)
        rintro e w9 ⟨rfl, hb⟩
        have hZ9 := hZ.keep hb
        have own9 := own_keep HO.out hb
        clear kl k0 k1 k2 rl r0 r1 r2 f0 f1 f2 hbf
        clear hZ hb HO
        obtain ⟨kl, k0, k1, k2⟩ := id hZ9.P
        obtain ⟨rl, r0, r1, r2⟩ := id hZ9.R
        have f0 := hZ9.fz 0
        have f1 := hZ9.fz 1
        have f2 := hZ9.fz 2
        have hbf := hZ9.bel
        go_wp2_with fail
        refine bodyPost_ret (v := .tuple #[.agg #[.int .i64 W, .int .i64 H, .slice A' P.length c'], .bool true]) (by simp [results, Tryz.results14, go_sem, r0, r1, r2]) rfl ?_
        rw [HV.out, HL.out, HPP.out]
        exact dc_some (b := w.heap.size + 2) rfl (Nat.lt_succ_self _) own9 hbf
  · have q1 : ((N : Int) != 1) = true := by simp; omega
    have q2 : ¬ (N : Int) = 1 := by omega
    have HV := Lib.hid (hpV_no (W := W) (H := H) (L := L) (fun h => h1 (by rw [← HN.out]; exact h.2)))
    go_wp2_with fail
    (with_reducible refine HT0.out.mono ?_)
    rintro e w3 ⟨A2, c2, rfl, hb⟩
    have Z4 := Z3.keep hb
    clear kl k0 k1 k2 rl r0 r1 r2 f0 f1 f2 hbf
    clear hb Z3 hcl HT0
    obtain ⟨kl, k0, k1, k2⟩ := id Z4.P
    obtain ⟨rl, r0, r1, r2⟩ := id Z4.R
    have f0 := Z4.fz 0
    have f1 := Z4.fz 1
    have f2 := Z4.fz 2
    have hbf := Z4.bel
    go_wp2_with fail
    refine bodyPost_ret (v := .tuple #[.agg #[.int .i64 0, .int .i64 0, .slice none 0 0], .bool false]) (by simp [results, Tryz.results14, go_sem, r0, r1, r2]) rfl ?_
    rw [HV.out]
    exact dc_none hbf
end Go.Proofs.YtchabjmdjpfkfaaGreat
namespace Go.Proofs.YtchabjmdjpfkfaaGreat
open Go.RowKit Go.Shelf

theorem own_noneH {w : World} {base : Nat} {e : TypeId} {size n c : Nat} {A : Option Addr} {xs : List Value} (h : w.ownsRow base e size (.slice A n c) n xs) (hA : A = none) : n = 0 ∧ c = 0 := by
  rcases h.2 with ⟨hv, h0⟩ | ⟨g, cap, cur, he, _⟩
  · cases hv; exact ⟨rfl, rfl⟩
  · rw [hA] at he; cases he
theorem rows_twoN {W : World} {A1 A2 : Option Addr} {n1 c1 n2 c2 : Nat} {L1 L2 : List Sq} {t : TypeId} (l1 : L1.length = n1) (l2 : L2.length = n2) (h1 : SqsAt W W.heap.size A1 L1) (h2 : SqsAt W W.heap.size A2 L2) (hc1 : n1 ≤ c1) (hc2 : n2 ≤ c2) (e1 : A1 = none → n1 = 0 ∧ c1 = 0) (e2 : A2 ≠ none) :
    RowsC (W.alloc (.cells #[.slice A1 n1 c1, .slice A2 n2 c2] t)) (W.alloc (.cells #[.slice A1 n1 c1, .slice A2 n2 c2] t)).heap.size (some ⟨W.heap.size, 0, none⟩) [L1, L2] := by
  subst l1 l2
  have hb : Below W.heap.size W (W.alloc (.cells #[.slice A1 L1.length c1, .slice A2 L2.length c2] t)) := (Below.refl _ _).alloc (Nat.le_refl _) _
  intro i l hl
  match i, hl with
  | 0, hl =>
    simp at hl; subst hl
    exact ⟨W.heap.size, 0, A1, c1, rfl, by simp, by simp, hc1, (h1.below hb).mono hb.size, e1⟩
  | 1, hl =>
    simp at hl; subst hl
    exact ⟨W.heap.size, 0, A2, c2, rfl, by simp, by simp, hc2, (h2.below hb).mono hb.size, fun e => absurd e e2⟩
theorem DZ.farC {w V V' : World} {W H : Int} {A : Option Addr} {n c m : Nat} {o : Value} {xs : List Value} (h : DZ w V W H A n c) {V0 : World} (ho : V0.ownsRow (w.heap.size + 2) 60 3 o m xs) (hg : V.grownBy V' o.ownBlock) : DZ w V' W H A n c := by
  have hz := h.R.lt
  have hb : Below (w.heap.size + 2) V V' := (Below.refl _ V).grown hg (by omega) (fun k e => (ho.lt k e).1)
  have hB : ∀ (b : Nat) (x y z : Value), b < w.heap.size + 2 → Cv3 b V x y z → Cv3 b V' x y z := fun b x y z hlt c => ⟨Nat.lt_of_lt_of_le c.lt hb.size, (hb.cell (p := ⟨b, 0, none⟩) hlt).trans c.c0, (hb.cell (p := ⟨b, 1, none⟩) hlt).trans c.c1, (hb.cell (p := ⟨b, 2, none⟩) hlt).trans c.c2⟩
  exact ⟨h.bel.trans (hb.mono (by omega)), hB _ _ _ _ (by omega) h.P, hB _ _ _ _ (by omega) h.R, fun o' => (hb.frozen (p := ⟨w.heap.size + 1, o', none⟩) (show w.heap.size + 1 < _ by omega)).trans (h.fz o')⟩
theorem flat2P {P D : List Sq} : [P, D].flatten = P ++ D := by simp
/-- What region 8 leaves: a box with the puzzle, its clues in memory made since. -/
structure HB (Wk wx : World) (g : Nat) (W H : Int) (A4 : Option Addr) (m c4 : Nat) (R : List Sq) : Prop where
  bel : Below Wk.heap.size Wk wx
  box : Cv3 g wx (.int .i64 W) (.int .i64 H) (.slice A4 m c4)
  own : wx.ownsRow Wk.heap.size 60 3 (.slice A4 m c4) m (flat R)
theorem HB.late {Wk wE : World} {W H : Int} {A4 : Option Addr} {m c4 : Nat} {R : List Sq} {t : TypeId} (hb : Below Wk.heap.size Wk wE) (o : wE.ownsRow Wk.heap.size 60 3 (.slice A4 m c4) m (flat R)) :
    HB Wk (wE.alloc (.cells #[.int .i64 W, .int .i64 H, .slice A4 m c4] t)) wE.heap.size W H A4 m c4 R :=
  ⟨hb.alloc hb.size _, Cv3.start _ _ _ _ _, own_keep o ((Below.refl _ _).alloc (Nat.le_refl _) _)⟩
theorem HB.put {Wk wE : World} {g : Nat} {W H : Int} {A4 : Option Addr} {m c4 : Nat} {R : List Sq} {x y z : Value} (hb : Below Wk.heap.size Wk wE) (hg : Wk.heap.size ≤ g) (bx : Cv3 g wE x y z) (o : wE.ownsRow Wk.heap.size 60 3 (.slice A4 m c4) m (flat R)) (hne : ∀ k, (Value.slice A4 m c4).ownBlock = some k → k ≠ g) :
    HB Wk (((wE.setCell ⟨g, 0, none⟩ (.int .i64 W)).setCell ⟨g, 1, none⟩ (.int .i64 H)).setCell ⟨g, 2, none⟩ (.slice A4 m c4)) g W H A4 m c4 R := by
  obtain ⟨hl, e0, e1, e2⟩ := bx
  refine ⟨((hb.setCell (p := ⟨g, 0, none⟩) hg _).setCell (p := ⟨g, 1, none⟩) hg _).setCell (p := ⟨g, 2, none⟩) hg _, ⟨by simpa using hl, by simp [go_sem, e0, e1, e2], by simp [go_sem, e0, e1, e2], by simp [go_sem, e0, e1, e2]⟩, ?_⟩
  have hn : ∀ k, (Value.slice A4 m c4).ownBlock = some k → some g ≠ some k := fun k hk e => hne k hk (Option.some.inj e).symm
  exact own_far (own_far (own_far o (put_grown _ ⟨g, 0, none⟩ _) hn) (put_grown _ ⟨g, 1, none⟩ _) hn) (put_grown _ ⟨g, 2, none⟩ _) hn
set_option maxRecDepth 100000 in
set_option maxHeartbeats 16000000 in
theorem implHp_any (W H : Int) (A : Option Addr) (n c : Nat) (L : List Sq) (w : World) (hl : L.length = n) (hc : n ≤ c) (hc9 : c ≤ 1048576) (hA : A = none → c = 0) (hL : SqsAt w w.heap.size A L) :
    Calls Tryz.prog 15 #[.agg #[.int .i64 W, .int .i64 H, .slice A n c]] w (RetPuzzle w (hpV W H L).1 (hpV W H L).2.1 (hpV W H L).2.2.1 (hpV W H L).2.2.2) := by
  obtain ⟨W1, hW1⟩ : ∃ W1, W1 = (w.alloc (.cells #[.int .i64 W, .int .i64 H, .slice A n c] 31)).alloc (.cells #[.int .i64 0, .int .i64 0, .slice none 0 0] 31) := ⟨_, rfl⟩
  have Z1 : DZ w W1 W H A n c := by rw [hW1]; exact DZ.start w W H A n c
  have hL1 := (hL.below Z1.bel).mono Z1.bel.size
  have C := implSolved_any W H A n c L W1 hl (by omega) hL1
  have hf := sol_few (W := W) (H := H) (L := L)
  obtain ⟨i0, hi, hz0, hz1, hz2⟩ := info_parts infoCl
  obtain ⟨N, hN⟩ : ∃ N, (solV W H L).length = N := ⟨_, rfl⟩
  obtain ⟨ok, hok⟩ : ∃ ok, dc (GoodP W H L) = ok := ⟨_, rfl⟩
  rw [hN, hok] at C
  rw [hN] at hf
  have HN := Lib.hid hN
  have HL := Lib.hid hl
  by_cases h1 : N = 1
  · have hP : GoodP W H L := Classical.byContradiction fun h => by
      have : solV W H L = [] := by unfold solV; rw [dc_false h]; rfl
      rw [this] at hN; simp at hN; omega
    have e1 : ((N : Int) == 1) = true := by simp; omega
    rw [e1] at C
    have C0 := Lib.hid C
    have HV := Lib.hid (hpV_yes (W := W) (H := H) (L := L) ⟨hP, by rw [HN.out]; exact h1⟩)
    have hn6 : n ≤ 6 := by have := hP.2.1; omega
    have TL := fun (V : World) (hb : Below w.heap.size w V) => (hL.below hb).mono hb.size
    have HTL := Lib.hid TL
    clear C hok hN hL1 hP TL
    go_enter Tryz.func15, Tryz.ntmps15
    go_wp2_with fail
    rw [← hW1]
    clear hW1
    (with_reducible refine C0.out.mono ?_)
    rintro e w1 ⟨rfl, hb⟩
    have Z2 := Z1.keep hb
    clear hb Z1 C0
    obtain ⟨kl, k0, k1, k2⟩ := id Z2.P
    obtain ⟨rl, r0, r1, r2⟩ := id Z2.R
    have f0 := Z2.fz 0
    have f1 := Z2.fz 1
    have f2 := Z2.fz 2
    have hbf := Z2.bel
    go_wp2_with fail
    clear kl k0 k1 k2 rl r0 r1 r2 f0 f1 f2 hbf
    go_loopw [6, 23] (fun o i wr => ∃ (k : Nat) (A' : Option Addr) (c' m : Nat), k ≤ n ∧ i = .int .i64 k ∧ o = .slice A' m c' ∧ m = (hpL W H L k).length ∧ DZ w wr W H A n c ∧ wr.ownsRow (w.heap.size + 2) 60 3 (.slice A' m c') m (flat (hpL W H L k))) (fun _ i _ => n - (intOf i).toNat)
    case atStart => exact ⟨0, none, 0, 0, Nat.zero_le _, rfl, rfl, rfl, Z2, World.ownsRow_nil _ _ _ _⟩
    case round =>
      obtain ⟨k, A', c', m, hk, rfl, rfl, hm, hZ, hown⟩ := hrel
      have hPl := hpL_len W H L k
      by_cases hlt : k < n
      · obtain ⟨s, hs⟩ : ∃ s, L[k]? = some s := ⟨_, List.getElem?_eq_getElem (by omega)⟩
        obtain ⟨b, off, rfl, hbb, s0, s1, s2⟩ := (hL.below hZ.bel) k s hs
        have hy := fun h => hpL_yes (W := W) (H := H) hs h
        have hno := fun h => hpL_no (W := W) (H := H) hs h
        obtain ⟨P, hP⟩ : ∃ P, hpL W H L k = P := ⟨_, rfl⟩
        rw [hP] at hm hown hPl hy hno
        obtain ⟨r, hr⟩ : ∃ r, (P ++ L.drop (k + 1)).length = r := ⟨_, rfl⟩
        have hrm : m + (n - (k + 1)) = r := by rw [← hr, List.length_append, List.length_drop, hl, hm]
        have hr12 : r ≤ 12 := by omega
        obtain ⟨R, hR⟩ : ∃ R, P ++ L.drop (k + 1) = R := ⟨_, rfl⟩
        rw [hR] at hr hy hno
        have HR := Lib.hid hR
        have HR1 := Lib.hid hr
        have HJ := Lib.hid hm.symm
        have HRM := Lib.hid hrm
        have hPm : m ≤ k := by omega
        obtain ⟨M, hM⟩ : ∃ M, (solV W H R).length = M := ⟨_, rfl⟩
        rw [hM] at hy hno
        have hfm := sol_few (W := W) (H := H) (L := R)
        rw [hM] at hfm
        have HM := Lib.hid hM
        have HY := Lib.hid hy
        have HNO := Lib.hid hno
        have HP := Lib.hid hP
        have hcap := own_cap hown
        have i1 : (0 : Int) ≤ (k : Int) := by omega
        have i2 : (k : Int) < (n : Int) := by omega
        have q1 : (k : Int) ≤ (c : Int) := by omega
        have q2 : (k : Int) + 1 ≤ (n : Int) := by omega
        have q3 : (n : Int) ≤ (c : Int) := by omega
        have q4 : (0 : Int) ≤ (k : Int) + 1 := by omega
        have q5 : IntKind.i64.wrap ((k : Int) + 1) = (k : Int) + 1 := IntWalk.i64_in _ (by omega)
        obtain ⟨kl, k0, k1, k2⟩ := id hZ.P
        obtain ⟨rl, r0, r1, r2⟩ := id hZ.R
        have f0 := hZ.fz 0
        have f1 := hZ.fz 1
        have f2 := hZ.fz 2
        have hbf := hZ.bel
        clear hP hR hr hM hy hno hm hrm hs hL
        go_wp2_with fail
        obtain ⟨Wk, hWk⟩ : ∃ Wk, Wk = wr.alloc (.cells #[.int .i64 s.x, .int .i64 s.y, .int .i64 s.d] 60) := ⟨_, rfl⟩
        have hbk : Below wr.heap.size wr Wk := by rw [hWk]; exact (Below.refl _ _).alloc (Nat.le_refl _) _
        have cb : Cv3 wr.heap.size Wk (.int .i64 s.x) (.int .i64 s.y) (.int .i64 s.d) := by rw [hWk]; exact Cv3.start _ _ _ _ _
        rw [← hWk]
        clear hWk
        clear kl k0 k1 k2 rl r0 r1 r2 f0 f1 f2 hbf
        have Zk := hZ.keep hbk
        have ownk := own_keep hown hbk
        have hwk := Zk.bel
        have HO := Lib.hid ownk
        have HOK := Lib.hid (fun (V : World) (hb : Below Wk.heap.size Wk V) => ((cls_of_own ownk).below hb).mono hb.size)
        clear hown hbk hZ s0 s1 s2
        obtain ⟨kl, k0, k1, k2⟩ := id Zk.P
        obtain ⟨rl, r0, r1, r2⟩ := id Zk.R
        have f0 := Zk.fz 0
        have f1 := Zk.fz 1
        have f2 := Zk.fz 2
        have hbf := Zk.bel
        have HS : ∀ w', Below Wk.heap.size Wk w' → w'.cell? ⟨w.heap.size, 0, none⟩ = some (.int .i64 W) ∧ w'.cell? ⟨w.heap.size, 1, none⟩ = some (.int .i64 H) ∧ w'.cell? ⟨w.heap.size, 2, none⟩ = some (.slice (some ⟨b, off, none⟩) n c) := fun w' hb => ⟨(hb.cell (p := ⟨w.heap.size, 0, none⟩) kl).trans k0, (hb.cell (p := ⟨w.heap.size, 1, none⟩) kl).trans k1, (hb.cell (p := ⟨w.heap.size, 2, none⟩) kl).trans k2⟩
        clear ownk
        go_upto_region 8 with fail
        go_cut [9] (fun s9 wx => ∃ (g c4 : Nat) (A4 : Option Addr), s9 = .pointer (some ⟨g, 0, none⟩) ∧ HB Wk wx g W H A4 r c4 R)
        case first =>
          by_cases hcj : c = k + 1
          · subst hcj
            obtain rfl : n = k + 1 := by omega
            have q6 : (k : Int) ≤ (k : Int) + 1 := by omega
            have q7 : (k : Int) + 1 ≤ (k : Int) + 1 := by omega
            refine wp_region_top 11 (fun w' => w'.cell? ⟨w.heap.size, 0, none⟩ = some (.int .i64 W) ∧ w'.cell? ⟨w.heap.size, 1, none⟩ = some (.int .i64 H) ∧ w'.cell? ⟨w.heap.size, 2, none⟩ = some (.slice (some ⟨b, off, none⟩) (k + 1) (k + 1))) (by kernel_rfl) (HS _ ((Below.refl _ _).drew)) (fun hHeld => ?_)
            refine wpTop.take 0 (v := ?_) rfl (by kernel_rfl) (by kernel_rfl) (by kernel_rfl) (by kernel_rfl) (fun _ _ _ h => h) (Or.inl ⟨by rfl, ?_⟩) (by assumption) ?_
            rotate_left
            · intro w hSw; (try dsimp only at hSw); go_simp; try (with_reducible rfl)
            try simp only [Act.put, List.getElem_toArray, List.getElem_cons_zero, List.getElem_cons_succ, List.setIfInBounds_toArray, List.set_cons_zero, List.set_cons_succ]
            refine wpTop.take 1 (v := ?_) rfl (by kernel_rfl) (by kernel_rfl) (by kernel_rfl) (by kernel_rfl) (fun _ _ _ h => h) (Or.inl ⟨by rfl, ?_⟩) (by assumption) ?_
            rotate_left
            · intro w hSw; (try dsimp only at hSw); go_simp; try (with_reducible rfl)
            try simp only [Act.put, List.getElem_toArray, List.getElem_cons_zero, List.getElem_cons_succ, List.setIfInBounds_toArray, List.set_cons_zero, List.set_cons_succ]
            refine wpTop.take 2 (v := ?_) rfl (by kernel_rfl) (by kernel_rfl) (by kernel_rfl) (by kernel_rfl) (fun _ _ _ h => h) (Or.inl ⟨by rfl, ?_⟩) (by assumption) ?_
            rotate_left
            · intro w hSw; (try dsimp only at hSw); go_simp; try (with_reducible rfl)
            try simp only [Act.put, List.getElem_toArray, List.getElem_cons_zero, List.getElem_cons_succ, List.setIfInBounds_toArray, List.set_cons_zero, List.set_cons_succ]
            refine wpTop.take 3 (v := ?_) rfl (by kernel_rfl) (by kernel_rfl) (by kernel_rfl) (by kernel_rfl) (fun _ _ _ h => h) (Or.inl ⟨by rfl, ?_⟩) (by assumption) ?_
            rotate_left
            · intro w hSw; (try dsimp only at hSw); go_simp; try (with_reducible rfl)
            try simp only [Act.put, List.getElem_toArray, List.getElem_cons_zero, List.getElem_cons_succ, List.setIfInBounds_toArray, List.set_cons_zero, List.set_cons_succ]
            refine wpTop.take 4 (v := ?_) rfl (by kernel_rfl) (by kernel_rfl) (by kernel_rfl) (by kernel_rfl) (fun _ _ _ h => h) (Or.inl ⟨by rfl, ?_⟩) (by assumption) ?_
            rotate_left
            · intro w hSw; (try dsimp only at hSw); go_simp; try (with_reducible rfl)
            try simp only [Act.put, List.getElem_toArray, List.getElem_cons_zero, List.getElem_cons_succ, List.setIfInBounds_toArray, List.set_cons_zero, List.set_cons_succ]
            refine wpTop.take 5 (v := ?_) rfl (by kernel_rfl) (by kernel_rfl) (by kernel_rfl) (by kernel_rfl) (fun _ _ _ h => h) (Or.inl ⟨by rfl, ?_⟩) (by assumption) ?_
            rotate_left
            · intro w hSw; (try dsimp only at hSw); go_simp; try (with_reducible rfl)
            try simp only [Act.put, List.getElem_toArray, List.getElem_cons_zero, List.getElem_cons_succ, List.setIfInBounds_toArray, List.set_cons_zero, List.set_cons_succ]
            refine wpTop.take 6 (v := ?_) rfl (by kernel_rfl) (by kernel_rfl) (by kernel_rfl) (by kernel_rfl) (fun _ _ _ h => h) (Or.inl ⟨by rfl, ?_⟩) (by assumption) ?_
            rotate_left
            · intro w hSw; (try dsimp only at hSw); go_simp; try (with_reducible rfl)
            try simp only [Act.put, List.getElem_toArray, List.getElem_cons_zero, List.getElem_cons_succ, List.setIfInBounds_toArray, List.set_cons_zero, List.set_cons_succ]
            have hd : Below Wk.heap.size Wk Wk.drew := (Below.refl _ _).drew
            have hab : ∀ o, Below Wk.heap.size Wk (Wk.drew.alloc o) := fun o => hd.alloc hd.size o
            have hab2 : ∀ o o', Below Wk.heap.size Wk ((Wk.drew.alloc o).alloc o') := fun o o' => (hab o).alloc (hab o).size o'
            refine wpTop.two 7 10 rfl rfl (by kernel_rfl) (fun K hK => ?_) (fun K hK => ?_)
            · go_simp
              refine hK.out _ _ (fun _ => HS _ (hab _)) (fun hH => ?_)
              clear hK K
              have hHeld := hH (by decide)
              clear hH
              try simp only [Act.put, List.getElem_toArray, List.getElem_cons_zero, List.getElem_cons_succ, List.setIfInBounds_toArray, List.set_cons_zero, List.set_cons_succ]
              refine wpTop.two 8 10 rfl rfl (by kernel_rfl) (fun K hK => ?_) (fun K hK => ?_)
              · go_simp
                refine (concatC_any _ 2 2 [P, L.drop (k + 1)] _ rfl (by omega) (by rw [flat2P, HR.out, HR1.out]; omega) (rows_twoN (W := Wk.drew) HJ.out (by rw [List.length_drop]; omega) (HOK.out _ hd) (sqs_nil (List.drop_eq_nil_of_le (by omega))) hcap (Nat.le_refl _) (own_noneH HO.out) (by simp))).mono ?_
                rintro e w4 hret
                unfold RetQc at hret
                rw [flat2P, HR.out, HR1.out] at hret
                obtain ⟨A4, c4, rfl, o4, hb4⟩ := hret
                have hbw4 : Below Wk.heap.size Wk w4 := (hab _).trans (hb4.mono (hab _).size)
                have oc4 := o4
                have o4 := own_base o4 (show Wk.heap.size ≤ _ from (hab _).size)
                refine hK.out _ _ (fun _ => HS _ hbw4) (fun hH => ?_)
                clear hK K
                have hHeld := hH (by decide)
                clear hH
                try simp only [Act.put, List.getElem_toArray, List.getElem_cons_zero, List.getElem_cons_succ, List.setIfInBounds_toArray, List.set_cons_zero, List.set_cons_succ]
                refine wpTop.two 9 10 rfl rfl (by kernel_rfl) (fun K hK => ?_) (fun K hK => ?_)
                · go_simp
                  (with_reducible refine (withClues_any _ _ _ _ _ _ _ _ _).mono ?_)
                  rintro e w5 ⟨rfl, hb5⟩
                  have hb6 : Below Wk.heap.size Wk w5 := (hbw4).trans (hb5.mono (hbw4).size)
                  refine hK.out _ _ (fun _ => HS _ hb6) (fun hH => ?_)
                  clear hK K
                  have hHeld := hH (by decide)
                  clear hH
                  try simp only [Act.put, List.getElem_toArray, List.getElem_cons_zero, List.getElem_cons_succ, List.setIfInBounds_toArray, List.set_cons_zero, List.set_cons_succ]
                  refine wpTop.one 10 rfl (by kernel_rfl) (fun K hK => ?_)
                  go_simp
                  refine hK.out _ _ (fun _ => HS _ (hb6.alloc hb6.size _)) (fun hH => ?_)
                  clear hK K
                  have hHeld := hH (by decide)
                  clear hH
                  try simp only [Act.put, List.getElem_toArray, List.getElem_cons_zero, List.getElem_cons_succ, List.setIfInBounds_toArray, List.set_cons_zero, List.set_cons_succ]
                  refine wpTop.one 11 rfl (by kernel_rfl) (fun K hK => ?_)
                  go_simp
                  refine hK.out _ _ (fun h => absurd h (by decide)) (fun hH => ?_)
                  clear hK K
                  clear hH
                  try simp only [Act.put, List.getElem_toArray, List.getElem_cons_zero, List.getElem_cons_succ, List.setIfInBounds_toArray, List.set_cons_zero, List.set_cons_succ]
                  refine wpTop.all (by kernel_rfl) ?_ _
                  go_wp2_with fail
                  go_meet
                  exact ⟨_, c4, A4, rfl, HB.late hb6 (own_keep o4 hb5)⟩
                · go_simp
                  refine hK.out _ _ (fun _ => HS _ (hbw4.alloc hbw4.size _)) (fun hH => ?_)
                  clear hK K
                  have hHeld := hH (by decide)
                  clear hH
                  try simp only [Act.put, List.getElem_toArray, List.getElem_cons_zero, List.getElem_cons_succ, List.setIfInBounds_toArray, List.set_cons_zero, List.set_cons_succ]
                  have hbz := hbw4.alloc hbw4.size (.cells #[.int .i64 0, .int .i64 0, .slice none 0 0] 31)
                  refine wpTop.one 9 rfl (by kernel_rfl) (fun K hK => ?_)
                  go_simp
                  (with_reducible refine (withClues_any _ _ _ _ _ _ _ _ _).mono ?_)
                  rintro e w5 ⟨rfl, hb5⟩
                  have hb6 : Below Wk.heap.size Wk w5 := (hbz).trans (hb5.mono (hbz).size)
                  refine hK.out _ _ (fun _ => HS _ hb6) (fun hH => ?_)
                  clear hK K
                  have hHeld := hH (by decide)
                  clear hH
                  try simp only [Act.put, List.getElem_toArray, List.getElem_cons_zero, List.getElem_cons_succ, List.setIfInBounds_toArray, List.set_cons_zero, List.set_cons_succ]
                  have bz := (Cv3.start w4 (.int .i64 0) (.int .i64 0) (.slice none 0 0) 31).next hb5
                  obtain ⟨zl, z0, z1, z2⟩ := id bz
                  have fzz : ∀ o, w5.frozen? ⟨w4.heap.size, o, none⟩ = false := fun o => (hb5.frozen (p := ⟨w4.heap.size, o, none⟩) (by simp)).trans (World.frozen?_alloc_at _ _ _ _ rfl)
                  have fz0 := (fzz) 0
                  have fz1 := (fzz) 1
                  have fz2 := (fzz) 2
                  refine wpTop.one 11 rfl (by kernel_rfl) (fun K hK => ?_)
                  go_simp
                  refine hK.out _ _ (fun h => absurd h (by decide)) (fun hH => ?_)
                  clear hK K
                  clear hH
                  try simp only [Act.put, List.getElem_toArray, List.getElem_cons_zero, List.getElem_cons_succ, List.setIfInBounds_toArray, List.set_cons_zero, List.set_cons_succ]
                  refine wpTop.all (by kernel_rfl) ?_ _
                  go_wp2_with fail
                  go_meet
                  exact ⟨_, c4, A4, rfl, HB.put hb6 hbw4.size bz (own_keep (own_keep o4 ((Below.refl _ _).alloc (Nat.le_refl _) _)) hb5) (fun k hk => by have := (o4.lt k hk).2; omega)⟩
              · go_simp
                refine hK.out _ _ (fun _ => HS _ (hab2 _ _)) (fun hH => ?_)
                clear hK K
                have hHeld := hH (by decide)
                clear hH
                try simp only [Act.put, List.getElem_toArray, List.getElem_cons_zero, List.getElem_cons_succ, List.setIfInBounds_toArray, List.set_cons_zero, List.set_cons_succ]
                obtain ⟨Wa, hWa⟩ : ∃ Wa, Wa = Wk.drew.alloc (.cells #[.slice A' m c', .slice (some ⟨b, off, none⟩) 0 0] 29) := ⟨_, rfl⟩
                refine wpTop.one 8 rfl (by kernel_rfl) (fun K hK => ?_)
                go_simp
                refine (concatC_any _ 2 2 [P, L.drop (k + 1)] _ rfl (by omega) (by rw [flat2P, HR.out, HR1.out]; omega) (((rows_twoN (W := Wk.drew) HJ.out (by rw [List.length_drop]; omega) (HOK.out _ hd) (sqs_nil (List.drop_eq_nil_of_le (by omega))) hcap (Nat.le_refl _) (own_noneH HO.out) (by simp)).below ((Below.refl _ _).alloc (Nat.le_refl _) _)).mono ((Below.refl _ _).alloc (Nat.le_refl _) _).size)).mono ?_
                rintro e w4 hret
                unfold RetQc at hret
                rw [flat2P, HR.out, HR1.out] at hret
                obtain ⟨A4, c4, rfl, o4, hb4⟩ := hret
                have hbw4 : Below Wk.heap.size Wk w4 := (hab2 _ _).trans (hb4.mono (hab2 _ _).size)
                have oc4 := o4
                have o4 := own_base o4 (show Wk.heap.size ≤ _ from (hab2 _ _).size)
                refine hK.out _ _ (fun _ => HS _ hbw4) (fun hH => ?_)
                clear hK K
                have hHeld := hH (by decide)
                clear hH
                try simp only [Act.put, List.getElem_toArray, List.getElem_cons_zero, List.getElem_cons_succ, List.setIfInBounds_toArray, List.set_cons_zero, List.set_cons_succ]
                refine wpTop.one 9 rfl (by kernel_rfl) (fun K hK => ?_)
                go_simp
                (with_reducible refine (withClues_any _ _ _ _ _ _ _ _ _).mono ?_)
                rintro e w5 ⟨rfl, hb5⟩
                have hb6 : Below Wk.heap.size Wk w5 := (hbw4).trans (hb5.mono (hbw4).size)
                refine hK.out _ _ (fun _ => HS _ hb6) (fun hH => ?_)
                clear hK K
                have hHeld := hH (by decide)
                clear hH
                try simp only [Act.put, List.getElem_toArray, List.getElem_cons_zero, List.getElem_cons_succ, List.setIfInBounds_toArray, List.set_cons_zero, List.set_cons_succ]
                have hb45 := hb4.trans (hb5.mono hb4.size)
                have bz := (Cv3.start (Wk.drew.alloc (.cells #[.slice A' m c', .slice (some ⟨b, off, none⟩) 0 0] 29)) (.int .i64 0) (.int .i64 0) (.slice none 0 0) 31).next hb45
                have fzz : ∀ o, w5.frozen? ⟨(Wk.drew.alloc (.cells #[.slice A' m c', .slice (some ⟨b, off, none⟩) 0 0] 29)).heap.size, o, none⟩ = false := fun o => (hb45.frozen (p := ⟨_, o, none⟩) (by simp)).trans (World.frozen?_alloc_at _ _ _ _ rfl)
                have hze : (Wk.drew.alloc (.cells #[.slice A' m c', .slice (some ⟨b, off, none⟩) 0 0] 29)).heap.size = Wk.heap.size + 1 := by simp
                rw [hze] at bz fzz
                obtain ⟨zl, z0, z1, z2⟩ := id bz
                have fz0 := (fzz) 0
                have fz1 := (fzz) 1
                have fz2 := (fzz) 2
                refine wpTop.one 11 rfl (by kernel_rfl) (fun K hK => ?_)
                go_simp
                refine hK.out _ _ (fun h => absurd h (by decide)) (fun hH => ?_)
                clear hK K
                clear hH
                try simp only [Act.put, List.getElem_toArray, List.getElem_cons_zero, List.getElem_cons_succ, List.setIfInBounds_toArray, List.set_cons_zero, List.set_cons_succ]
                refine wpTop.all (by kernel_rfl) ?_ _
                go_wp2_with fail
                go_meet
                exact ⟨_, c4, A4, rfl, HB.put hb6 (Nat.le_succ _) bz (own_keep o4 hb5) (fun k hk => by have := (oc4.lt k hk).1; simp at this; omega)⟩
            · go_simp
              refine hK.out _ _ (fun _ => HS _ (hab _)) (fun hH => ?_)
              clear hK K
              have hHeld := hH (by decide)
              clear hH
              try simp only [Act.put, List.getElem_toArray, List.getElem_cons_zero, List.getElem_cons_succ, List.setIfInBounds_toArray, List.set_cons_zero, List.set_cons_succ]
              refine wpTop.one 7 rfl (by kernel_rfl) (fun K hK => ?_)
              go_simp
              refine hK.out _ _ (fun _ => HS _ (hab2 _ _)) (fun hH => ?_)
              clear hK K
              have hHeld := hH (by decide)
              clear hH
              try simp only [Act.put, List.getElem_toArray, List.getElem_cons_zero, List.getElem_cons_succ, List.setIfInBounds_toArray, List.set_cons_zero, List.set_cons_succ]
              have hwz : Below Wk.heap.size Wk (Wk.alloc (.cells #[.int .i64 0, .int .i64 0, .slice none 0 0] 31)) := (Below.refl _ _).alloc (Nat.le_refl _) _
              have hwd : Below Wk.heap.size Wk ((Wk.alloc (.cells #[.int .i64 0, .int .i64 0, .slice none 0 0] 31)).alloc (.cells #[.slice A' m c', .slice (some ⟨b, off, none⟩) 0 0] 29)).drew := (hwz.alloc hwz.size _).drew
              refine wpTop.one 8 rfl (by kernel_rfl) (fun K hK => ?_)
              have RT := ((rows_twoN (L1 := P) (L2 := L.drop (k + 1)) (A2 := some ⟨b, off, none⟩) (n2 := 0) (c2 := 0) (t := 29) (W := (Wk.alloc (.cells #[.int .i64 0, .int .i64 0, .slice none 0 0] 31))) HJ.out (by rw [List.length_drop]; omega) (HOK.out _ hwz) (sqs_nil (List.drop_eq_nil_of_le (by omega))) hcap (Nat.le_refl _) (own_noneH HO.out) (by simp)).below ((Below.refl ((Wk.alloc (.cells #[.int .i64 0, .int .i64 0, .slice none 0 0] 31)).alloc (.cells #[.slice A' m c', .slice (some ⟨b, off, none⟩) 0 0] 29)).heap.size _).drew)).mono ((Below.refl ((Wk.alloc (.cells #[.int .i64 0, .int .i64 0, .slice none 0 0] 31)).alloc (.cells #[.slice A' m c', .slice (some ⟨b, off, none⟩) 0 0] 29)).heap.size _).drew).size
              have hze : (Wk.alloc (.cells #[.int .i64 0, .int .i64 0, .slice none 0 0] 31)).heap.size = Wk.heap.size + 1 := by simp
              rw [hze] at RT
              clear hze
              go_simp
              (with_reducible refine (concatC_any _ 2 2 [P, L.drop (k + 1)] _ rfl (by omega) (by rw [flat2P, HR.out, HR1.out]; omega) RT).mono ?_)
              clear RT
              rintro e w4 hret
              unfold RetQc at hret
              rw [flat2P, HR.out, HR1.out] at hret
              obtain ⟨A4, c4, rfl, o4, hb4⟩ := hret
              have hbw4 : Below Wk.heap.size Wk w4 := (hwd).trans (hb4.mono (hwd).size)
              have oc4 := o4
              have o4 := own_base o4 (show Wk.heap.size ≤ _ from (hwd).size)
              refine hK.out _ _ (fun _ => HS _ hbw4) (fun hH => ?_)
              clear hK K
              have hHeld := hH (by decide)
              clear hH
              try simp only [Act.put, List.getElem_toArray, List.getElem_cons_zero, List.getElem_cons_succ, List.setIfInBounds_toArray, List.set_cons_zero, List.set_cons_succ]
              refine wpTop.one 9 rfl (by kernel_rfl) (fun K hK => ?_)
              go_simp
              (with_reducible refine (withClues_any _ _ _ _ _ _ _ _ _).mono ?_)
              rintro e w5 ⟨rfl, hb5⟩
              have hb6 : Below Wk.heap.size Wk w5 := (hbw4).trans (hb5.mono (hbw4).size)
              refine hK.out _ _ (fun _ => HS _ hb6) (fun hH => ?_)
              clear hK K
              have hHeld := hH (by decide)
              clear hH
              try simp only [Act.put, List.getElem_toArray, List.getElem_cons_zero, List.getElem_cons_succ, List.setIfInBounds_toArray, List.set_cons_zero, List.set_cons_succ]
              have hb45 := hb4.trans (hb5.mono hb4.size)
              have bz := (((Cv3.start Wk (.int .i64 0) (.int .i64 0) (.slice none 0 0) 31).next ((Below.refl _ _).alloc (Nat.le_refl _) (.cells #[.slice A' m c', .slice (some ⟨b, off, none⟩) 0 0] 29))).next ((Below.refl _ _).drew)).next hb45
              have fzz : ∀ o, w5.frozen? ⟨Wk.heap.size, o, none⟩ = false := fun o => (hb45.frozen (p := ⟨Wk.heap.size, o, none⟩) (by simp; omega)).trans ((((Below.refl _ _).alloc (Nat.le_refl _) (.cells #[.slice A' m c', .slice (some ⟨b, off, none⟩) 0 0] 29)).frozen (p := ⟨Wk.heap.size, o, none⟩) (by simp)).trans (World.frozen?_alloc_at _ _ _ _ (by simp)))
              obtain ⟨zl, z0, z1, z2⟩ := id bz
              have fz0 := (fzz) 0
              have fz1 := (fzz) 1
              have fz2 := (fzz) 2
              refine wpTop.one 11 rfl (by kernel_rfl) (fun K hK => ?_)
              go_simp
              refine hK.out _ _ (fun h => absurd h (by decide)) (fun hH => ?_)
              clear hK K
              clear hH
              try simp only [Act.put, List.getElem_toArray, List.getElem_cons_zero, List.getElem_cons_succ, List.setIfInBounds_toArray, List.set_cons_zero, List.set_cons_succ]
              refine wpTop.all (by kernel_rfl) ?_ _
              go_wp2_with fail
              go_meet
              exact ⟨_, c4, A4, rfl, HB.put hb6 (Nat.le_refl _) bz (own_keep o4 hb5) (fun k hk => by have := (oc4.lt k hk).1; simp at this; omega)⟩
          · refine wp_region_top 11 (fun w' => w'.cell? ⟨w.heap.size, 0, none⟩ = some (.int .i64 W) ∧ w'.cell? ⟨w.heap.size, 1, none⟩ = some (.int .i64 H) ∧ w'.cell? ⟨w.heap.size, 2, none⟩ = some (.slice (some ⟨b, off, none⟩) n c)) (by kernel_rfl) (HS _ ((Below.refl _ _).drew)) (fun hHeld => ?_)
            refine wpTop.take 0 (v := ?_) rfl (by kernel_rfl) (by kernel_rfl) (by kernel_rfl) (by kernel_rfl) (fun _ _ _ h => h) (Or.inl ⟨by rfl, ?_⟩) (by assumption) ?_
            rotate_left
            · intro w hSw; (try dsimp only at hSw); go_simp; try (with_reducible rfl)
            try simp only [Act.put, List.getElem_toArray, List.getElem_cons_zero, List.getElem_cons_succ, List.setIfInBounds_toArray, List.set_cons_zero, List.set_cons_succ]
            refine wpTop.take 1 (v := ?_) rfl (by kernel_rfl) (by kernel_rfl) (by kernel_rfl) (by kernel_rfl) (fun _ _ _ h => h) (Or.inl ⟨by rfl, ?_⟩) (by assumption) ?_
            rotate_left
            · intro w hSw; (try dsimp only at hSw); go_simp; try (with_reducible rfl)
            try simp only [Act.put, List.getElem_toArray, List.getElem_cons_zero, List.getElem_cons_succ, List.setIfInBounds_toArray, List.set_cons_zero, List.set_cons_succ]
            refine wpTop.take 2 (v := ?_) rfl (by kernel_rfl) (by kernel_rfl) (by kernel_rfl) (by kernel_rfl) (fun _ _ _ h => h) (Or.inl ⟨by rfl, ?_⟩) (by assumption) ?_
            rotate_left
            · intro w hSw; (try dsimp only at hSw); go_simp; try (with_reducible rfl)
            try simp only [Act.put, List.getElem_toArray, List.getElem_cons_zero, List.getElem_cons_succ, List.setIfInBounds_toArray, List.set_cons_zero, List.set_cons_succ]
            refine wpTop.take 3 (v := ?_) rfl (by kernel_rfl) (by kernel_rfl) (by kernel_rfl) (by kernel_rfl) (fun _ _ _ h => h) (Or.inl ⟨by rfl, ?_⟩) (by assumption) ?_
            rotate_left
            · intro w hSw; (try dsimp only at hSw); go_simp; try (with_reducible rfl)
            try simp only [Act.put, List.getElem_toArray, List.getElem_cons_zero, List.getElem_cons_succ, List.setIfInBounds_toArray, List.set_cons_zero, List.set_cons_succ]
            refine wpTop.take 4 (v := ?_) rfl (by kernel_rfl) (by kernel_rfl) (by kernel_rfl) (by kernel_rfl) (fun _ _ _ h => h) (Or.inl ⟨by rfl, ?_⟩) (by assumption) ?_
            rotate_left
            · intro w hSw; (try dsimp only at hSw); go_simp; try (with_reducible rfl)
            try simp only [Act.put, List.getElem_toArray, List.getElem_cons_zero, List.getElem_cons_succ, List.setIfInBounds_toArray, List.set_cons_zero, List.set_cons_succ]
            refine wpTop.take 5 (v := ?_) rfl (by kernel_rfl) (by kernel_rfl) (by kernel_rfl) (by kernel_rfl) (fun _ _ _ h => h) (Or.inl ⟨by rfl, ?_⟩) (by assumption) ?_
            rotate_left
            · intro w hSw; (try dsimp only at hSw); go_simp; try (with_reducible rfl)
            try simp only [Act.put, List.getElem_toArray, List.getElem_cons_zero, List.getElem_cons_succ, List.setIfInBounds_toArray, List.set_cons_zero, List.set_cons_succ]
            refine wpTop.take 6 (v := ?_) rfl (by kernel_rfl) (by kernel_rfl) (by kernel_rfl) (by kernel_rfl) (fun _ _ _ h => h) (Or.inl ⟨by rfl, ?_⟩) (by assumption) ?_
            rotate_left
            · intro w hSw; (try dsimp only at hSw); go_simp; try (with_reducible rfl)
            try simp only [Act.put, List.getElem_toArray, List.getElem_cons_zero, List.getElem_cons_succ, List.setIfInBounds_toArray, List.set_cons_zero, List.set_cons_succ]
            have hd : Below Wk.heap.size Wk Wk.drew := (Below.refl _ _).drew
            have hab : ∀ o, Below Wk.heap.size Wk (Wk.drew.alloc o) := fun o => hd.alloc hd.size o
            have hab2 : ∀ o o', Below Wk.heap.size Wk ((Wk.drew.alloc o).alloc o') := fun o o' => (hab o).alloc (hab o).size o'
            refine wpTop.two 7 10 rfl rfl (by kernel_rfl) (fun K hK => ?_) (fun K hK => ?_)
            · go_simp
              refine hK.out _ _ (fun _ => HS _ (hab _)) (fun hH => ?_)
              clear hK K
              have hHeld := hH (by decide)
              clear hH
              try simp only [Act.put, List.getElem_toArray, List.getElem_cons_zero, List.getElem_cons_succ, List.setIfInBounds_toArray, List.set_cons_zero, List.set_cons_succ]
              refine wpTop.two 8 10 rfl rfl (by kernel_rfl) (fun K hK => ?_) (fun K hK => ?_)
              · go_simp
                refine (concatC_any _ 2 2 [P, L.drop (k + 1)] _ rfl (by omega) (by rw [flat2P, HR.out, HR1.out]; omega) (rows_twoN (W := Wk.drew) HJ.out (by rw [List.length_drop]; omega) (HOK.out _ hd) (sqs_drop ((HTL.out _ (hwk.trans ((hd).mono hwk.size)))) (k + 1)) hcap (by omega) (own_noneH HO.out) (by simp))).mono ?_
                rintro e w4 hret
                unfold RetQc at hret
                rw [flat2P, HR.out, HR1.out] at hret
                obtain ⟨A4, c4, rfl, o4, hb4⟩ := hret
                have hbw4 : Below Wk.heap.size Wk w4 := (hab _).trans (hb4.mono (hab _).size)
                have oc4 := o4
                have o4 := own_base o4 (show Wk.heap.size ≤ _ from (hab _).size)
                refine hK.out _ _ (fun _ => HS _ hbw4) (fun hH => ?_)
                clear hK K
                have hHeld := hH (by decide)
                clear hH
                try simp only [Act.put, List.getElem_toArray, List.getElem_cons_zero, List.getElem_cons_succ, List.setIfInBounds_toArray, List.set_cons_zero, List.set_cons_succ]
                refine wpTop.two 9 10 rfl rfl (by kernel_rfl) (fun K hK => ?_) (fun K hK => ?_)
                · go_simp
                  (with_reducible refine (withClues_any _ _ _ _ _ _ _ _ _).mono ?_)
                  rintro e w5 ⟨rfl, hb5⟩
                  have hb6 : Below Wk.heap.size Wk w5 := (hbw4).trans (hb5.mono (hbw4).size)
                  refine hK.out _ _ (fun _ => HS _ hb6) (fun hH => ?_)
                  clear hK K
                  have hHeld := hH (by decide)
                  clear hH
                  try simp only [Act.put, List.getElem_toArray, List.getElem_cons_zero, List.getElem_cons_succ, List.setIfInBounds_toArray, List.set_cons_zero, List.set_cons_succ]
                  refine wpTop.one 10 rfl (by kernel_rfl) (fun K hK => ?_)
                  go_simp
                  refine hK.out _ _ (fun _ => HS _ (hb6.alloc hb6.size _)) (fun hH => ?_)
                  clear hK K
                  have hHeld := hH (by decide)
                  clear hH
                  try simp only [Act.put, List.getElem_toArray, List.getElem_cons_zero, List.getElem_cons_succ, List.setIfInBounds_toArray, List.set_cons_zero, List.set_cons_succ]
                  refine wpTop.one 11 rfl (by kernel_rfl) (fun K hK => ?_)
                  go_simp
                  refine hK.out _ _ (fun h => absurd h (by decide)) (fun hH => ?_)
                  clear hK K
                  clear hH
                  try simp only [Act.put, List.getElem_toArray, List.getElem_cons_zero, List.getElem_cons_succ, List.setIfInBounds_toArray, List.set_cons_zero, List.set_cons_succ]
                  refine wpTop.all (by kernel_rfl) ?_ _
                  go_wp2_with fail
                  go_meet
                  exact ⟨_, c4, A4, rfl, HB.late hb6 (own_keep o4 hb5)⟩
                · go_simp
                  refine hK.out _ _ (fun _ => HS _ (hbw4.alloc hbw4.size _)) (fun hH => ?_)
                  clear hK K
                  have hHeld := hH (by decide)
                  clear hH
                  try simp only [Act.put, List.getElem_toArray, List.getElem_cons_zero, List.getElem_cons_succ, List.setIfInBounds_toArray, List.set_cons_zero, List.set_cons_succ]
                  have hbz := hbw4.alloc hbw4.size (.cells #[.int .i64 0, .int .i64 0, .slice none 0 0] 31)
                  refine wpTop.one 9 rfl (by kernel_rfl) (fun K hK => ?_)
                  go_simp
                  (with_reducible refine (withClues_any _ _ _ _ _ _ _ _ _).mono ?_)
                  rintro e w5 ⟨rfl, hb5⟩
                  have hb6 : Below Wk.heap.size Wk w5 := (hbz).trans (hb5.mono (hbz).size)
                  refine hK.out _ _ (fun _ => HS _ hb6) (fun hH => ?_)
                  clear hK K
                  have hHeld := hH (by decide)
                  clear hH
                  try simp only [Act.put, List.getElem_toArray, List.getElem_cons_zero, List.getElem_cons_succ, List.setIfInBounds_toArray, List.set_cons_zero, List.set_cons_succ]
                  have bz := (Cv3.start w4 (.int .i64 0) (.int .i64 0) (.slice none 0 0) 31).next hb5
                  obtain ⟨zl, z0, z1, z2⟩ := id bz
                  have fzz : ∀ o, w5.frozen? ⟨w4.heap.size, o, none⟩ = false := fun o => (hb5.frozen (p := ⟨w4.heap.size, o, none⟩) (by simp)).trans (World.frozen?_alloc_at _ _ _ _ rfl)
                  have fz0 := (fzz) 0
                  have fz1 := (fzz) 1
                  have fz2 := (fzz) 2
                  refine wpTop.one 11 rfl (by kernel_rfl) (fun K hK => ?_)
                  go_simp
                  refine hK.out _ _ (fun h => absurd h (by decide)) (fun hH => ?_)
                  clear hK K
                  clear hH
                  try simp only [Act.put, List.getElem_toArray, List.getElem_cons_zero, List.getElem_cons_succ, List.setIfInBounds_toArray, List.set_cons_zero, List.set_cons_succ]
                  refine wpTop.all (by kernel_rfl) ?_ _
                  go_wp2_with fail
                  go_meet
                  exact ⟨_, c4, A4, rfl, HB.put hb6 hbw4.size bz (own_keep (own_keep o4 ((Below.refl _ _).alloc (Nat.le_refl _) _)) hb5) (fun k hk => by have := (o4.lt k hk).2; omega)⟩
              · go_simp
                refine hK.out _ _ (fun _ => HS _ (hab2 _ _)) (fun hH => ?_)
                clear hK K
                have hHeld := hH (by decide)
                clear hH
                try simp only [Act.put, List.getElem_toArray, List.getElem_cons_zero, List.getElem_cons_succ, List.setIfInBounds_toArray, List.set_cons_zero, List.set_cons_succ]
                obtain ⟨Wa, hWa⟩ : ∃ Wa, Wa = Wk.drew.alloc (.cells #[.slice A' m c', .slice (some ((⟨b, off, none⟩ : Addr).add ((k + 1) * 3))) (n - (k + 1)) (c - (k + 1))] 29) := ⟨_, rfl⟩
                refine wpTop.one 8 rfl (by kernel_rfl) (fun K hK => ?_)
                go_simp
                refine (concatC_any _ 2 2 [P, L.drop (k + 1)] _ rfl (by omega) (by rw [flat2P, HR.out, HR1.out]; omega) (((rows_twoN (W := Wk.drew) HJ.out (by rw [List.length_drop]; omega) (HOK.out _ hd) (sqs_drop ((HTL.out _ (hwk.trans ((hd).mono hwk.size)))) (k + 1)) hcap (by omega) (own_noneH HO.out) (by simp)).below ((Below.refl _ _).alloc (Nat.le_refl _) _)).mono ((Below.refl _ _).alloc (Nat.le_refl _) _).size)).mono ?_
                rintro e w4 hret
                unfold RetQc at hret
                rw [flat2P, HR.out, HR1.out] at hret
                obtain ⟨A4, c4, rfl, o4, hb4⟩ := hret
                have hbw4 : Below Wk.heap.size Wk w4 := (hab2 _ _).trans (hb4.mono (hab2 _ _).size)
                have oc4 := o4
                have o4 := own_base o4 (show Wk.heap.size ≤ _ from (hab2 _ _).size)
                refine hK.out _ _ (fun _ => HS _ hbw4) (fun hH => ?_)
                clear hK K
                have hHeld := hH (by decide)
                clear hH
                try simp only [Act.put, List.getElem_toArray, List.getElem_cons_zero, List.getElem_cons_succ, List.setIfInBounds_toArray, List.set_cons_zero, List.set_cons_succ]
                refine wpTop.one 9 rfl (by kernel_rfl) (fun K hK => ?_)
                go_simp
                (with_reducible refine (withClues_any _ _ _ _ _ _ _ _ _).mono ?_)
                rintro e w5 ⟨rfl, hb5⟩
                have hb6 : Below Wk.heap.size Wk w5 := (hbw4).trans (hb5.mono (hbw4).size)
                refine hK.out _ _ (fun _ => HS _ hb6) (fun hH => ?_)
                clear hK K
                have hHeld := hH (by decide)
                clear hH
                try simp only [Act.put, List.getElem_toArray, List.getElem_cons_zero, List.getElem_cons_succ, List.setIfInBounds_toArray, List.set_cons_zero, List.set_cons_succ]
                have hb45 := hb4.trans (hb5.mono hb4.size)
                have bz := (Cv3.start (Wk.drew.alloc (.cells #[.slice A' m c', .slice (some ((⟨b, off, none⟩ : Addr).add ((k + 1) * 3))) (n - (k + 1)) (c - (k + 1))] 29)) (.int .i64 0) (.int .i64 0) (.slice none 0 0) 31).next hb45
                have fzz : ∀ o, w5.frozen? ⟨(Wk.drew.alloc (.cells #[.slice A' m c', .slice (some ((⟨b, off, none⟩ : Addr).add ((k + 1) * 3))) (n - (k + 1)) (c - (k + 1))] 29)).heap.size, o, none⟩ = false := fun o => (hb45.frozen (p := ⟨_, o, none⟩) (by simp)).trans (World.frozen?_alloc_at _ _ _ _ rfl)
                have hze : (Wk.drew.alloc (.cells #[.slice A' m c', .slice (some ((⟨b, off, none⟩ : Addr).add ((k + 1) * 3))) (n - (k + 1)) (c - (k + 1))] 29)).heap.size = Wk.heap.size + 1 := by simp
                rw [hze] at bz fzz
                obtain ⟨zl, z0, z1, z2⟩ := id bz
                have fz0 := (fzz) 0
                have fz1 := (fzz) 1
                have fz2 := (fzz) 2
                refine wpTop.one 11 rfl (by kernel_rfl) (fun K hK => ?_)
                go_simp
                refine hK.out _ _ (fun h => absurd h (by decide)) (fun hH => ?_)
                clear hK K
                clear hH
                try simp only [Act.put, List.getElem_toArray, List.getElem_cons_zero, List.getElem_cons_succ, List.setIfInBounds_toArray, List.set_cons_zero, List.set_cons_succ]
                refine wpTop.all (by kernel_rfl) ?_ _
                go_wp2_with fail
                go_meet
                exact ⟨_, c4, A4, rfl, HB.put hb6 (Nat.le_succ _) bz (own_keep o4 hb5) (fun k hk => by have := (oc4.lt k hk).1; simp at this; omega)⟩
            · go_simp
              refine hK.out _ _ (fun _ => HS _ (hab _)) (fun hH => ?_)
              clear hK K
              have hHeld := hH (by decide)
              clear hH
              try simp only [Act.put, List.getElem_toArray, List.getElem_cons_zero, List.getElem_cons_succ, List.setIfInBounds_toArray, List.set_cons_zero, List.set_cons_succ]
              refine wpTop.one 7 rfl (by kernel_rfl) (fun K hK => ?_)
              go_simp
              refine hK.out _ _ (fun _ => HS _ (hab2 _ _)) (fun hH => ?_)
              clear hK K
              have hHeld := hH (by decide)
              clear hH
              try simp only [Act.put, List.getElem_toArray, List.getElem_cons_zero, List.getElem_cons_succ, List.setIfInBounds_toArray, List.set_cons_zero, List.set_cons_succ]
              have hwz : Below Wk.heap.size Wk (Wk.alloc (.cells #[.int .i64 0, .int .i64 0, .slice none 0 0] 31)) := (Below.refl _ _).alloc (Nat.le_refl _) _
              have hwd : Below Wk.heap.size Wk ((Wk.alloc (.cells #[.int .i64 0, .int .i64 0, .slice none 0 0] 31)).alloc (.cells #[.slice A' m c', .slice (some ⟨b, off + (k + 1) * 3, none⟩) (n - (k + 1)) (c - (k + 1))] 29)).drew := (hwz.alloc hwz.size _).drew
              refine wpTop.one 8 rfl (by kernel_rfl) (fun K hK => ?_)
              have RT := ((rows_twoN (L1 := P) (L2 := L.drop (k + 1)) (A2 := some ⟨b, off + (k + 1) * 3, none⟩) (n2 := n - (k + 1)) (c2 := c - (k + 1)) (t := 29) (W := (Wk.alloc (.cells #[.int .i64 0, .int .i64 0, .slice none 0 0] 31))) HJ.out (by rw [List.length_drop]; omega) (HOK.out _ hwz) (sqs_drop ((HTL.out _ (hwk.trans ((hwz).mono hwk.size)))) (k + 1)) hcap (by omega) (own_noneH HO.out) (by simp)).below ((Below.refl ((Wk.alloc (.cells #[.int .i64 0, .int .i64 0, .slice none 0 0] 31)).alloc (.cells #[.slice A' m c', .slice (some ⟨b, off + (k + 1) * 3, none⟩) (n - (k + 1)) (c - (k + 1))] 29)).heap.size _).drew)).mono ((Below.refl ((Wk.alloc (.cells #[.int .i64 0, .int .i64 0, .slice none 0 0] 31)).alloc (.cells #[.slice A' m c', .slice (some ⟨b, off + (k + 1) * 3, none⟩) (n - (k + 1)) (c - (k + 1))] 29)).heap.size _).drew).size
              have hze : (Wk.alloc (.cells #[.int .i64 0, .int .i64 0, .slice none 0 0] 31)).heap.size = Wk.heap.size + 1 := by simp
              rw [hze] at RT
              clear hze
              go_simp
              (with_reducible refine (concatC_any _ 2 2 [P, L.drop (k + 1)] _ rfl (by omega) (by rw [flat2P, HR.out, HR1.out]; omega) RT).mono ?_)
              clear RT
              rintro e w4 hret
              unfold RetQc at hret
              rw [flat2P, HR.out, HR1.out] at hret
              obtain ⟨A4, c4, rfl, o4, hb4⟩ := hret
              have hbw4 : Below Wk.heap.size Wk w4 := (hwd).trans (hb4.mono (hwd).size)
              have oc4 := o4
              have o4 := own_base o4 (show Wk.heap.size ≤ _ from (hwd).size)
              refine hK.out _ _ (fun _ => HS _ hbw4) (fun hH => ?_)
              clear hK K
              have hHeld := hH (by decide)
              clear hH
              try simp only [Act.put, List.getElem_toArray, List.getElem_cons_zero, List.getElem_cons_succ, List.setIfInBounds_toArray, List.set_cons_zero, List.set_cons_succ]
              refine wpTop.one 9 rfl (by kernel_rfl) (fun K hK => ?_)
              go_simp
              (with_reducible refine (withClues_any _ _ _ _ _ _ _ _ _).mono ?_)
              rintro e w5 ⟨rfl, hb5⟩
              have hb6 : Below Wk.heap.size Wk w5 := (hbw4).trans (hb5.mono (hbw4).size)
              refine hK.out _ _ (fun _ => HS _ hb6) (fun hH => ?_)
              clear hK K
              have hHeld := hH (by decide)
              clear hH
              try simp only [Act.put, List.getElem_toArray, List.getElem_cons_zero, List.getElem_cons_succ, List.setIfInBounds_toArray, List.set_cons_zero, List.set_cons_succ]
              have hb45 := hb4.trans (hb5.mono hb4.size)
              have bz := (((Cv3.start Wk (.int .i64 0) (.int .i64 0) (.slice none 0 0) 31).next ((Below.refl _ _).alloc (Nat.le_refl _) (.cells #[.slice A' m c', .slice (some ⟨b, off + (k + 1) * 3, none⟩) (n - (k + 1)) (c - (k + 1))] 29))).next ((Below.refl _ _).drew)).next hb45
              have fzz : ∀ o, w5.frozen? ⟨Wk.heap.size, o, none⟩ = false := fun o => (hb45.frozen (p := ⟨Wk.heap.size, o, none⟩) (by simp; omega)).trans ((((Below.refl _ _).alloc (Nat.le_refl _) (.cells #[.slice A' m c', .slice (some ⟨b, off + (k + 1) * 3, none⟩) (n - (k + 1)) (c - (k + 1))] 29)).frozen (p := ⟨Wk.heap.size, o, none⟩) (by simp)).trans (World.frozen?_alloc_at _ _ _ _ (by simp)))
              obtain ⟨zl, z0, z1, z2⟩ := id bz
              have fz0 := (fzz) 0
              have fz1 := (fzz) 1
              have fz2 := (fzz) 2
              refine wpTop.one 11 rfl (by kernel_rfl) (fun K hK => ?_)
              go_simp
              refine hK.out _ _ (fun h => absurd h (by decide)) (fun hH => ?_)
              clear hK K
              clear hH
              try simp only [Act.put, List.getElem_toArray, List.getElem_cons_zero, List.getElem_cons_succ, List.setIfInBounds_toArray, List.set_cons_zero, List.set_cons_succ]
              refine wpTop.all (by kernel_rfl) ?_ _
              go_wp2_with fail
              go_meet
              exact ⟨_, c4, A4, rfl, HB.put hb6 (Nat.le_refl _) bz (own_keep o4 hb5) (fun k hk => by have := (oc4.lt k hk).1; simp at this; omega)⟩
        case rest =>
          obtain ⟨g, c4, A4, rfl, HBx⟩ := hcut
          have Zx := Zk.keep HBx.bel
          have ownx := own_keep HO.out HBx.bel
          have cbx := cb.next HBx.bel
          have C1 := implSolved_any W H A4 r c4 R _ HR1.out (by omega) (cls_of_own HBx.own)
          rw [HM.out] at C1
          obtain ⟨ok2, hok2⟩ : ∃ ok2, dc (GoodP W H R) = ok2 := ⟨_, rfl⟩
          rw [hok2] at C1
          have HC1 := Lib.hid C1
          obtain ⟨xl, x0, x1, x2⟩ := id HBx.box
          clear hok2 C1 HS kl k0 k1 k2 rl r0 r1 r2 f0 f1 f2 hbf hwk Zk cb HO HOK
          go_wp2_with fail
          (with_reducible refine HC1.out.mono ?_)
          rintro e w5 ⟨rfl, hb5⟩
          have Z5 := Zx.keep hb5
          have own5 := own_keep ownx hb5
          have cb5 := cbx.next hb5
          clear xl x0 x1 x2 HC1 hb5 Zx ownx cbx HBx
          by_cases he : M = 1
          · have e1 : ((M : Int) == 1) = true := by simp; omega
            have HQ := Lib.hid (HY.out he)
            have HO5 := Lib.hid own5
            clear own5
            go_wp2_with fail
            go_roundw
            case rel => exact ⟨k + 1, A', c', m, by omega, by go_num, rfl, by rw [HQ.out, HJ.out], Z5, by rw [HQ.out]; exact HO5.out⟩
            case measure => simp [intOf]; omega
          · have e1 : ((M : Int) == 1) = false := by simp; omega
            have HQ := Lib.hid (HNO.out he)
            obtain ⟨yl, y0, y1, y2⟩ := id cb5
            have hba : ∀ o, Below w5.heap.size w5 (w5.alloc o) := fun o => (Below.refl _ _).alloc (Nat.le_refl _) o
            have hz2' : w.heap.size + 2 ≤ w5.heap.size := by have := Z5.R.lt; omega
            have hb1 : m + 1 ≤ maxLen := by unfold maxLen; omega
            have hb2 : (m + 1) * 24 ≤ 140737488355328 := by omega
            go_wp2_with (at_builtin; refine app_list rfl _ _ _ rfl (w.heap.size + 2) 60 i0 (.agg #[.int .i64 0, .int .i64 0, .int .i64 0]) 3 24 Tryz.underlying29 hi hz0 hz1 hz2 rfl (by decide) (.slice A' m c') m _ rfl (own5.alloc _) (some ⟨w5.heap.size, 0, none⟩) 1 1 [.int .i64 s.x, .int .i64 s.y, .int .i64 s.d] rfl rfl (.inr ⟨_, rfl, new3 _ _ _ _ _⟩) (one3 _ _ _) hb1 hb2 (by simp; omega) ?_; intro v6 w6 hown6 hgr6 _; obtain ⟨A6, c6, rfl⟩ := own_val hown6)
            have Z6 : DZ w w6 W H (some ⟨b, off, none⟩) n c := (Z5.keep (hba _)).farC own5 hgr6
            have HO6 : Hid (w6.ownsRow (w.heap.size + 2) 60 3 (.slice A6 (m + 1) c6) (m + 1) (flat (hpL W H L (k + 1)))) := by
              show w6.ownsRow _ _ _ _ _ _
              rw [HQ.out, flat_app]
              exact hown6
            clear yl y0 y1 y2 hown6 hgr6 own5 Z5 cb5
            go_wp2_with fail
            go_roundw
            case rel => exact ⟨k + 1, A6, c6, m + 1, by omega, by go_num, rfl, by rw [HQ.out, List.length_append, HJ.out]; rfl, Z6, HO6.out⟩
            case measure => simp [intOf]; omega
      · obtain rfl : k = n := by omega
        obtain ⟨P, hP⟩ : ∃ P, hpL W H L k = P := ⟨_, rfl⟩
        rw [hP] at hm hown hPl
        have HPP := Lib.hid hP
        subst hm
        have HO := Lib.hid hown
        obtain ⟨kl, k0, k1, k2⟩ := id hZ.P
        obtain ⟨rl, r0, r1, r2⟩ := id hZ.R
        have f0 := hZ.fz 0
        have f1 := hZ.fz 1
        have f2 := hZ.fz 2
        have hbf := hZ.bel
        clear hown hP
        go_wp2_with fail
        (with_reducible refine (withClues_any _ _ _ _ _ _ _ _ _).mono ?_)
        rintro e w9 ⟨rfl, hb⟩
        have hZ9 := hZ.keep hb
        have own9 := own_keep HO.out hb
        clear kl k0 k1 k2 rl r0 r1 r2 f0 f1 f2 hbf
        clear hZ hb HO
        obtain ⟨kl, k0, k1, k2⟩ := id hZ9.P
        obtain ⟨rl, r0, r1, r2⟩ := id hZ9.R
        have f0 := hZ9.fz 0
        have f1 := hZ9.fz 1
        have f2 := hZ9.fz 2
        have hbf := hZ9.bel
        go_wp2_with fail
        refine bodyPost_ret (v := .tuple #[.agg #[.int .i64 W, .int .i64 H, .slice A' P.length c'], .bool true]) (by simp [results, Tryz.results15, go_sem, r0, r1, r2]) rfl ?_
        rw [HV.out, HL.out, HPP.out]
        exact dc_some (b := w.heap.size + 2) rfl (Nat.lt_succ_self _) own9 hbf
  · have e1 : ((N : Int) == 1) = false := by simp; omega
    rw [e1] at C
    have C0 := Lib.hid C
    have HV := Lib.hid (hpV_no (W := W) (H := H) (L := L) (fun h => h1 (by rw [← HN.out]; exact h.2)))
    clear C hok hL1
    go_enter Tryz.func15, Tryz.ntmps15
    go_wp2_with fail
    rw [← hW1]
    clear hW1
    (with_reducible refine C0.out.mono ?_)
    rintro e w1 ⟨rfl, hb⟩
    have Z2 := Z1.keep hb
    clear hb Z1 C0
    obtain ⟨kl, k0, k1, k2⟩ := id Z2.P
    obtain ⟨rl, r0, r1, r2⟩ := id Z2.R
    have f0 := Z2.fz 0
    have f1 := Z2.fz 1
    have f2 := Z2.fz 2
    have hbf := Z2.bel
    go_wp2_with fail
    refine bodyPost_ret (v := .tuple #[.agg #[.int .i64 0, .int .i64 0, .slice none 0 0], .bool false]) (by simp [results, Tryz.results15, go_sem, r0, r1, r2]) rfl ?_
    rw [HV.out]
    exact dc_none hbf
end Go.Proofs.YtchabjmdjpfkfaaGreat
namespace Go.Proofs.YtchabjmdjpfkfaaGreat
open Go.RowKit Go.Shelf

set_option maxRecDepth 100000 in
set_option maxHeartbeats 16000000 in
theorem specHp_any (W H : Int) (A : Option Addr) (n c : Nat) (L : List Sq) (w : World) (hl : L.length = n) (hc : n ≤ c) (hc9 : c ≤ 1048576) (hA : A = none → c = 0) (hL : SqsAt w w.heap.size A L) :
    Calls Tryz.prog 14 #[.agg #[.int .i64 W, .int .i64 H, .slice A n c]] w (RetPuzzle w (hpV W H L).1 (hpV W H L).2.1 (hpV W H L).2.2.1 (hpV W H L).2.2.2) := by
  obtain ⟨W1, hW1⟩ : ∃ W1, W1 = (w.alloc (.cells #[.int .i64 W, .int .i64 H, .slice A n c] 31)).alloc (.cells #[.int .i64 0, .int .i64 0, .slice none 0 0] 31) := ⟨_, rfl⟩
  have Z1 : DZ w W1 W H A n c := by rw [hW1]; exact DZ.start w W H A n c
  have hL1 := (hL.below Z1.bel).mono Z1.bel.size
  by_cases hP : GoodP W H L
  · obtain ⟨a, rfl⟩ := Int.eq_ofNat_of_zero_le (show 0 ≤ W by have := hP.size; omega)
    obtain ⟨b, rfl⟩ := Int.eq_ofNat_of_zero_le (show 0 ≤ H by have := hP.size; omega)
    exact specHp_yes a b A n c L w hl hc hc9 hA hL hP
  · have C0 := Lib.hid (callB_no (pzGood_any W H A n c L W1 hl (by omega) hL1) hP)
    have HV := Lib.hid (hpV_no (W := W) (H := H) (L := L) (fun h => hP h.1))
    clear hL1 hL hl hP
    go_enter Tryz.func14, Tryz.ntmps14
    go_wp2_with fail
    rw [← hW1]
    clear hW1
    (with_reducible refine C0.out.mono ?_)
    rintro e w1 ⟨rfl, hb⟩
    have Z2 := Z1.keep hb
    clear hb Z1 C0
    obtain ⟨kl, k0, k1, k2⟩ := id Z2.P
    obtain ⟨rl, r0, r1, r2⟩ := id Z2.R
    have f0 := Z2.fz 0
    have f1 := Z2.fz 1
    have f2 := Z2.fz 2
    have hbf := Z2.bel
    go_wp2_with fail
    refine bodyPost_ret (v := .tuple #[.agg #[.int .i64 0, .int .i64 0, .slice none 0 0], .bool false]) (by simp [results, Tryz.results14, go_sem, r0, r1, r2]) rfl ?_
    rw [HV.out]
    exact dc_none hbf
end Go.Proofs.YtchabjmdjpfkfaaGreat
