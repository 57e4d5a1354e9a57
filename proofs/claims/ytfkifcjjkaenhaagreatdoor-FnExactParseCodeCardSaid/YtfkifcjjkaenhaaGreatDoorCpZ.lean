/- CpI, CpS, CpV: texts in one. -/
import Derived.Test.YtfkifcjjkaenhaaGreatDoorCpR
import Derived.Test.YtfkifcjjkaenhaaGreatDoorApp
import Derived.Test.YtfkifcjjkaenhaaGreatDoorSpl
set_option linter.all false
namespace Go.Proofs.YtfkifcjjkaenhaaGreatDoor
open Go.RowKit

theorem str_bas40 : (⟨#[40]⟩ : ByteArray) = bas [40] := rfl
theorem str_bas41 : (⟨#[41]⟩ : ByteArray) = bas [41] := rfl
theorem str_bas4140 : (⟨#[41, 40]⟩ : ByteArray) = bas [41, 40] := rfl
theorem str_bas44' : (⟨#[44]⟩ : ByteArray) = bas [44] := rfl
set_option maxRecDepth 100000 in
set_option maxHeartbeats 8000000 in
theorem implCp_any (l : List UInt8) (hl : l.length ≤ 1048576) (w : World) (hS : StrOk w) : Calls Tryz.prog 5 #[.string (bas l)] w (RetCp w l) := by
  have C1 := Tryz.strings_CutPrefix (bas l) ⟨#[40]⟩ w
  rw [bas_data] at C1
  obtain ⟨T, hT⟩ : ∃ T, T = Lib.trimPrefix l [40] := ⟨_, rfl⟩
  have hTl : T.length ≤ l.length := by rw [hT]; unfold Lib.trimPrefix; split <;> simp
  have C2 := Tryz.strings_CutSuffix (bas T) ⟨#[41]⟩ w (by rw [bas_size]; omega)
  rw [bas_data] at C2
  obtain ⟨S1, hS1⟩ : ∃ S, S = bas T := ⟨_, rfl⟩
  obtain ⟨U, hU⟩ : ∃ U, U = Lib.trimSuffix T [41] := ⟨_, rfl⟩
  obtain ⟨S2, hS2⟩ : ∃ S, S = bas U := ⟨_, rfl⟩
  obtain ⟨b1, hb1⟩ : ∃ b, b = Lib.hasPrefix l [40] := ⟨_, rfl⟩
  obtain ⟨b2, hb2⟩ : ∃ b, b = Lib.hasSuffix T [41] := ⟨_, rfl⟩
  have C1 : Calls Tryz.prog 10 #[.string (bas l), .string ⟨#[40]⟩] w fun e w' => e = .returned (.tuple #[.string S1, .bool b1]) ∧ w = w' := by rw [hS1, hT, hb1]; exact C1.mono fun _ _ h => ⟨h.1, h.2.symm⟩
  have C2 : Calls Tryz.prog 11 #[.string S1, .string ⟨#[41]⟩] w fun e w' => e = .returned (.tuple #[.string S2, .bool b2]) ∧ w = w' := by rw [hS2, hS1, hU, hb2]; exact C2.mono fun _ _ h => ⟨h.1, h.2.symm⟩
  have HOC := open_close l
  rw [← hT, ← hU, ← hb1, ← hb2] at HOC
  obtain ⟨S, hSS⟩ : ∃ S, bas l = S := ⟨_, rfl⟩
  rw [hSS] at C1 ⊢
  clear hb1 hb2 hS1 hSS
  have C1 := Lib.hid C1
  have C2 := Lib.hid C2
  rcases HOC with ⟨U', hlU, rfl, rfl, hU'⟩ | ⟨hno, hbb⟩
  · obtain rfl : U = U' := hU'
    have hUl : U.length ≤ 1048576 := by have := congrArg List.length hlU; simp at this; omega
    have C3 := splitN2_any U [41, 40] 30 hUl (by simp) (by omega) w hS.max
    have HPL := fun x hx => piece2_len [41, 40] (xs := Lib.splitN U [41, 40] 30) x hx
    have HJ : Lib.join (Lib.splitN U [41, 40] 30) [41, 40] = U := splitK2_join _ _ _
    have hF30 := splitN2_len [41, 40] (n := 30) (by omega) U
    have HMF : ∀ M, CdG M → cdt M = l → Lib.splitN U [41, 40] 30 = M.map fun g => Lib.join (dcs g) [44] := fun M hM e => by
      rw [cdt_open (cdG_ne hM), hlU] at e
      have e2 := List.append_inj_left' (List.cons.inj e).2 rfl
      rw [← e2]; exact code_fields hM
    obtain ⟨F, hF⟩ : ∃ F, F = Lib.splitN U [41, 40] 30 := ⟨_, rfl⟩
    rw [← hF] at C3 HPL HJ hF30 HMF
    rw [HJ] at HPL
    rw [← hS2, ← str_bas4140, show ((30 : Nat) : Int) = (30 : Int) from rfl] at C3
    have C3 := Lib.hid C3
    have HJ := Lib.hid HJ
    have HPL := Lib.hid HPL
    have HMF := Lib.hid HMF
    have HLU := Lib.hid hlU
    have hF30 : F.length ≤ 30 := by omega
    clear hF hlU hT hU hS2
    go_enter Tryz.func5, Tryz.ntmps5
    go_wp2_with fail
    (with_reducible refine C1.out.mono ?_)
    rintro e w' ⟨rfl, rfl⟩
    go_wp2_with fail
    (with_reducible refine C2.out.mono ?_)
    rintro e w' ⟨rfl, rfl⟩
    go_wp2_with fail
    (with_reducible refine C3.out.mono ?_)
    rintro e w2 ⟨c, rfl, ho, hb2⟩
    obtain ⟨g, hg⟩ : ∃ g, g = w.heap.size := ⟨_, rfl⟩
    rw [← hg] at ho ⊢
    have HG := Lib.hid hg
    have hcap := own_cap ho
    have HTX : Hid (∀ j t, F[j]? = some t → g < w2.heap.size ∧ w2.cell? ⟨g, j, none⟩ = some (.string (bas t))) := Lib.hid (fun j t hj => by
      have hjl := (List.getElem?_eq_some_iff.1 hj).1
      have h := TxAt.of_own ho (by omega)
      exact ⟨h.1, h.2 j t hj⟩)
    have hS2 := hS.below hb2
    obtain ⟨i0, hi, hz0, hz1, hzb⟩ := info_parts infoInt
    obtain ⟨j0, hj, hy0, hy1, hy2⟩ := info_parts infoSl
    clear C1 C2 C3 hg ho
    go_wp2_with fail
    go_loopw [6, 30] (fun v i wr => ∃ (k : Nat) (A1 : Option Addr) (c1 : Nat) (R : List Rw), k ≤ F.length ∧ i = .int .i64 k ∧ v = .slice A1 R.length c1 ∧ Fld F k (lists R) ∧ OwnSS wr w2.heap.size A1 R.length c1 R ∧ Below w2.heap.size w2 wr) (fun _ i _ => F.length - (intOf i).toNat)
    case atStart => exact ⟨0, none, 0, [], Nat.zero_le _, rfl, rfl, Fld.zero F, OwnSS.nil _ _, Below.refl _ _⟩
    case round =>
      obtain ⟨k, A1, c1, R, hk, rfl, rfl, hFl, hR, hbr⟩ := hrel
      have hRk : R.length = k := by have := hFl.1; rw [lists_len] at this; exact this
      have hSr := hS2.below hbr
      have hbw : Below w.heap.size w wr := hb2.trans (hbr.mono hb2.size)
      by_cases hlt : k < F.length
      · obtain ⟨t, ht⟩ : ∃ t, F[k]? = some t := ⟨_, List.getElem?_eq_getElem hlt⟩
        obtain ⟨hg2, e0⟩ := HTX.out k t ht
        have e0 : wr.cell? ⟨g, k, none⟩ = some (.string (bas t)) := (hbr.cell (p := ⟨g, k, none⟩) hg2).trans e0
        have htl : t.length ≤ 1048576 := by have := HPL.out t (List.mem_of_getElem? ht); omega
        have CC := Tryz.strings_Count_one (bas t) 44 wr
        rw [bas_data] at CC
        have CC := CC.mono (fun e w' h => (⟨h.1, h.2.symm⟩ : e = _ ∧ wr = w'))
        have CP := pn_any t 44 (by decide) (cn t) (by unfold cn; omega) htl wr hSr
        have hct : Lib.countByte t 44 ≤ t.length := List.count_le_length
        have hcn : cn t = min (Lib.countByte t 44 + 1) 30 := rfl
        obtain ⟨q, hq⟩ : ∃ q, q = Lib.countByte t 44 := ⟨_, rfl⟩
        rw [← hq] at CC hct hcn
        obtain ⟨m, hm⟩ : ∃ m, m = cn t := ⟨_, rfl⟩
        rw [← hm] at CP hcn
        have q0 : (0 : Int) ≤ (q : Int) := by omega
        have q1 : (q : Int) ≤ 1048576 := by omega
        have hmn : min ((q : Int) + 1) 30 = (m : Int) := by omega
        have hmw : IntKind.i64.wrap ((q : Int) + 1) = (q : Int) + 1 := IntWalk.i64_in _ (by omega)
        obtain ⟨St, hSt⟩ : ∃ S, bas t = S := ⟨_, rfl⟩
        rw [hSt] at e0 CC CP
        rw [← str_bas44'] at CP
        have CC := Lib.hid CC
        have CP := Lib.hid CP
        have HM := Lib.hid hm
        have HT := Lib.hid ht
        have HFL := Lib.hid hFl
        have HRK := Lib.hid hRk
        have hR30 : R.length ≤ 30 := by omega
        have hm30 : m ≤ 30 := by omega
        have i1 : (0 : Int) ≤ (k : Int) := by omega
        have i2 : (k : Int) < (F.length : Int) := by omega
        clear hm ht hFl hRk hSt hq hcn
        go_wp2_with fail
        (with_reducible refine CC.out.mono ?_)
        rintro e w' ⟨rfl, rfl⟩
        go_wp2_with fail
        (try rw [hmw])
        (try rw [hmn])
        (with_reducible refine CP.out.mono ?_)
        rintro e w4 ⟨hb4, hv⟩
        have hR4 := hR.keep hb4
        have hbr4 := hbr.trans (hb4.mono hbr.size)
        have hbw4 := hbw.trans (hb4.mono hbw.size)
        have hlow : ∀ kk, Blk A1 R.length c1 R kk → kk < wr.heap.size := fun kk hkk => (hR.lt hkk).2
        rcases hv with ⟨X, g4, hN, rfl, ho4⟩ | ⟨hN, rfl⟩
        · have hXl : X.length = m := hN.1
          subst hXl
          rw [← nti_nints, ← nti_len] at ho4
          have hF' : Fld F (k + 1) (lists (R ++ [⟨some ⟨g4, 0, none⟩, X.length, nti X⟩])) := by
            rw [lists_app]
            have := HFL.out.succ HT.out (R := X) (by rw [← HM.out]; exact hN)
            simpa [lists] using this
          have HF' := Lib.hid hF'
          have hbl : R.length + 1 ≤ maxLen := by unfold maxLen; omega
          have hby : (R.length + 1) * 24 ≤ 140737488355328 := by omega
          have hz4 : w2.heap.size ≤ w4.heap.size := hbr4.size
          have hzr : w2.heap.size ≤ wr.heap.size := hbr.size
          have hrow : w4.ownsRow wr.heap.size 3 1 (Rw.mk (some ⟨g4, 0, none⟩) X.length (nti X)).val (nti X).length (ints (nti X)) := by
            have := ho4
            rw [nti_len] at this ⊢
            unfold Rw.val
            rw [nti_len]
            exact this
          have HO4 := Lib.hid hrow
          clear hF' ho4 hrow hN hb4 CC CP hR hbr hbw hSr
          go_wp2_with (at_builtin; refine app_list rfl _ _ _ rfl w2.heap.size 32 j0 (.slice none 0 0) 1 24 Tryz.underlying22 hj hy0 hy1 hy2 rfl (by decide) (.slice A1 R.length c1) R.length _ rfl (hR4.outer.alloc _) (some ⟨w4.heap.size, 0, none⟩) 1 1 [.slice (some ⟨g4, 0, none⟩) X.length X.length] rfl rfl (.inr ⟨_, rfl, new1 _ _ _⟩) (one1 _ rfl) hbl hby (by simp; omega) ?_; intro v' w6 hown6 hgrow hv6)
          have hbX : Below w4.heap.size w4 (w4.alloc (.cells #[.slice (some ⟨g4, 0, none⟩) X.length X.length] 32)) := (Below.refl _ _).alloc (Nat.le_refl _) _
          have hRX := hR4.keep hbX
          have hB6 : Below w2.heap.size w2 w6 := (hbr4.trans (hbX.mono hz4)).grown hgrow (by simp; omega) (fun kk hkk => (hRX.lt (.inl hkk)).1)
          obtain ⟨A7, c7, rfl, hS7⟩ := hRX.push ⟨some ⟨g4, 0, none⟩, X.length, nti X⟩ (own_base (own_keep HO4.out hbX) (by omega)) (fun kk hkk hkb => by
            have h1 := hlow kk hkb
            have h2 := (HO4.out.lt kk hkk).1
            omega) (by simpa [Rw.val, nti_len] using hown6) hgrow hv6
          clear hgrow hown6 hv6 hRX hR4 hbr4 hbX
          go_wp2_with fail
          go_roundw
          case rel => exact ⟨k + 1, A7, c7, _, by omega, by go_num, by simp, HF'.out, by simpa using hS7, hB6⟩
          case measure => simp [intOf]; omega
        · have hno : ∀ M, CdG M → cdt M ≠ l := fun M hM e => Fld.bad hM (HMF.out M hM e) HT.out (by rw [← HM.out]; exact hN)
          have HN := Lib.hid hno
          clear hno hN CC CP hR hb4 hbr hbw
          go_wp2_with fail
          first
          | (go_ret2; exact ⟨hbw4, .inr ⟨HN.out, rfl⟩⟩)
          | (go_ret; exact ⟨hbw4, .inr ⟨HN.out, rfl⟩⟩)
          | exact ⟨hbw4, .inr ⟨HN.out, rfl⟩⟩
      · obtain rfl : k = F.length := by omega
        have CI := isCode_any A1 R.length c1 (lists R) wr (lists_len R) (by omega) hR.rowsZ hFl.wf
        have i2 : ¬ (F.length : Int) < (F.length : Int) := by omega
        have HR := Lib.hid hR
        by_cases hG : CdG (lists R)
        · have htx : cdt (lists R) = l := by
            rw [cdt_open (cdG_ne hG), ← hFl.fields, HJ.out]; exact HLU.out.symm
          have HGG := Lib.hid hG
          have HTX2 := Lib.hid htx
          have hG' : (codeR (lists R)).2.2.2 = true := hG
          rw [hG'] at CI
          have CI := Lib.hid CI
          clear hG hG' htx hFl hRk hR
          go_wp2_with fail
          (with_reducible refine CI.out.mono ?_)
          rintro e w8 ⟨rfl, hb8⟩
          have R8 := HR.out.keep hb8
          have B8 := hbw.trans (hb8.mono hbw.size)
          clear hb8
          go_wp2_with fail
          first
          | (go_ret2; exact ⟨B8, .inl ⟨A1, c1, R, rfl, R8.based hb2.size, HGG.out, HTX2.out⟩⟩)
          | (go_ret; exact ⟨B8, .inl ⟨A1, c1, R, rfl, R8.based hb2.size, HGG.out, HTX2.out⟩⟩)
          | exact ⟨B8, .inl ⟨A1, c1, R, rfl, R8.based hb2.size, HGG.out, HTX2.out⟩⟩
        · have hno : ∀ M, CdG M → cdt M ≠ l := fun M hM e => hG (by rw [hFl.code hM (HMF.out M hM e)]; exact hM)
          have HN := Lib.hid hno
          have hG' : (codeR (lists R)).2.2.2 = false := by
            cases h : (codeR (lists R)).2.2.2 with
            | true => exact absurd h hG
            | false => rfl
          rw [hG'] at CI
          have CI := Lib.hid CI
          clear hG hG' hno hFl hRk hR
          go_wp2_with fail
          (with_reducible refine CI.out.mono ?_)
          rintro e w8 ⟨rfl, hb8⟩
          have B8 := hbw.trans (hb8.mono hbw.size)
          clear hb8
          go_wp2_with fail
          first
          | (go_ret2; exact ⟨B8, .inr ⟨HN.out, rfl⟩⟩)
          | (go_ret; exact ⟨B8, .inr ⟨HN.out, rfl⟩⟩)
          | exact ⟨B8, .inr ⟨HN.out, rfl⟩⟩
  · have HN := Lib.hid hno
    have hB : Below w.heap.size w w := Below.refl _ _
    clear hno hT hU hS2
    rcases hbb with rfl | ⟨rfl, rfl⟩
    all_goals (
      try cases b2
      all_goals (
        go_enter Tryz.func5, Tryz.ntmps5
        go_wp2_with fail
        (with_reducible refine C1.out.mono ?_)
        rintro e w' ⟨rfl, rfl⟩
        go_wp2_with fail
        (with_reducible refine C2.out.mono ?_)
        rintro e w' ⟨rfl, rfl⟩
        go_wp2_with fail
        first
        | (go_ret2; exact ⟨hB, .inr ⟨HN.out, rfl⟩⟩)
        | (go_ret; exact ⟨hB, .inr ⟨HN.out, rfl⟩⟩)
        | exact ⟨hB, .inr ⟨HN.out, rfl⟩⟩))
end Go.Proofs.YtfkifcjjkaenhaaGreatDoor
namespace Go.Proofs.YtfkifcjjkaenhaaGreatDoor
open Go.RowKit

theorem split_basP (l : List UInt8) (b : UInt8) (k : Int) (hk : k = b.toNat) (hs : l.length ≤ 1000000) (w : World) : Calls Tryz.prog 19 #[.string (bas l), .int .u8 k] w (RetSp w (spl b l)) := by
  subst hk
  have h := split_any (bas l) b (by rw [bas_size]; exact hs) w
  rw [bas_data] at h
  exact h
/-- Groups read so far. -/
def Gps (F : List (List UInt8)) (k : Nat) (N : List (List Int)) : Prop := k ≤ F.length ∧ gpsOf (F.take k) = some N
theorem Gps.zero (F : List (List UInt8)) : Gps F 0 [] := ⟨Nat.zero_le _, rfl⟩
theorem Gps.succ {F : List (List UInt8)} {k : Nat} {N : List (List Int)} {t : List UInt8} {g : List Int} (h : Gps F k N) (ht : F[k]? = some t) (hg : gpo t = some g) : Gps F (k + 1) (N ++ [g]) := by
  have hk := (List.getElem?_eq_some_iff.1 ht).1
  refine ⟨hk, ?_⟩
  rw [List.take_succ, ht, Option.toList_some, gpsOf_app, h.2, hg]
theorem Gps.bad {F : List (List UInt8)} {k : Nat} {N : List (List Int)} {t : List UInt8} (h : Gps F k N) (ht : F[k]? = some t) (hg : gpo t = none) : gpsOf F = none := by
  have hk := (List.getElem?_eq_some_iff.1 ht).1
  refine gpsOf_bad (k := k + 1) hk ?_
  rw [List.take_succ, ht, Option.toList_some, gpsOf_app, h.2, hg]
theorem Gps.all {F : List (List UInt8)} {N : List (List Int)} (h : Gps F F.length N) : gpsOf F = some N := by
  have := h.2
  rwa [List.take_of_length_le (Nat.le_refl _)] at this
theorem Gps.len {F : List (List UInt8)} {k : Nat} {N : List (List Int)} (h : Gps F k N) : N.length = k := by
  have := gpsOf_len h.2
  rw [List.length_take] at this
  have := h.1
  omega
theorem spl_len (b : UInt8) : ∀ l : List UInt8, (spl b l).length ≤ l.length + 1 := fun l => by
  rw [spS_end b l, List.length_append]
  have := (spS_le b l l.length).2
  simp; omega
theorem rdI_wf (l : List UInt8) : wfI (rdI l) := by
  by_cases h : rdG l
  · rw [rdI_yes h]
    have := rdF_le l h.2.2.2 l.length (Nat.le_refl _)
    rw [List.take_length] at this
    have hp : (10 : Nat) ^ l.length ≤ 10 ^ 6 := Nat.pow_le_pow_right (by omega) h.2.1
    unfold wfI; omega
  · rw [rdI_no h]; unfold wfI; omega
set_option maxRecDepth 100000 in
set_option maxHeartbeats 8000000 in
theorem bkParse_any (l : List UInt8) (w : World) : Calls Tryz.prog 9 #[.string (bas l)] w (RetCp w l) := by
  have hB : Below w.heap.size w w := Below.refl _ _
  obtain ⟨S, hSS⟩ : ∃ S, bas l = S := ⟨_, rfl⟩
  have hsz : S.size = l.length := by rw [← hSS, bas_size]
  have hdt : S.data.toList = l := by rw [← hSS, bas_data]
  by_cases h3 : l.length < 3
  · have z1 : (S.size : Int) < 3 := by omega
    have hno : ∀ M, CdG M → cdt M ≠ l := fun M hM e => by have := cdt_3 hM; rw [e] at this; omega
    have HN := Lib.hid hno
    rw [hSS]
    clear hno hSS hsz hdt h3
    go_enter Tryz.func9, Tryz.ntmps9
    go_wp2_with fail
    first
    | (go_ret2; exact ⟨hB, .inr ⟨HN.out, rfl⟩⟩)
    | (go_ret; exact ⟨hB, .inr ⟨HN.out, rfl⟩⟩)
    | exact ⟨hB, .inr ⟨HN.out, rfl⟩⟩
  · have z1 : ¬ (S.size : Int) < 3 := by omega
    by_cases h200 : 200 < l.length
    · have z2 : (200 : Int) < (S.size : Int) := by omega
      have hno : ∀ M, CdG M → cdt M ≠ l := fun M hM e => by have := cdt_150 hM; rw [e] at this; omega
      have HN := Lib.hid hno
      rw [hSS]
      clear hno hSS hsz hdt h3 h200
      go_enter Tryz.func9, Tryz.ntmps9
      go_wp2_with fail
      first
      | (go_ret2; exact ⟨hB, .inr ⟨HN.out, rfl⟩⟩)
      | (go_ret; exact ⟨hB, .inr ⟨HN.out, rfl⟩⟩)
      | exact ⟨hB, .inr ⟨HN.out, rfl⟩⟩
    · have z2 : ¬ (200 : Int) < (S.size : Int) := by omega
      obtain ⟨l', c, rfl⟩ : ∃ l' c, l = l' ++ [c] := ⟨l.dropLast, l.getLast (by intro e; rw [e] at h3; simp at h3), (List.dropLast_concat_getLast _).symm⟩
      have hk1 : l'.length + 1 = S.size := by rw [hsz]; simp
      obtain ⟨k, hk⟩ : ∃ k, k = l'.length := ⟨_, rfl⟩
      rw [← hk] at hk1
      have zk : ((S.size : Int)) - 1 = (k : Int) := by omega
      have zw : IntKind.i64.wrap ((S.size : Int) - 1) = (k : Int) := by rw [zk]; exact IntWalk.i64_in _ (by omega)
      have zi : (0 : Int) ≤ (k : Int) := by omega
      have zj : (k : Int) < (S.size : Int) := by omega
      have hkl : k < S.size := by omega
      have hget := getk S k hkl
      rw [hdt, List.getElem?_append_right (by omega), show k - l'.length = 0 from by omega] at hget
      have hc : c = S[k]'hkl := Option.some.inj hget
      have hex : S.extract 0 k = bas l' := by
        rw [extract_bas S 0 k (by omega), hdt, List.drop_zero, hk]; simp
      by_cases h41 : c = 41
      · subst h41
        have ze : ((S[k]'hkl).toNat : Int) = 41 := by rw [← hc]; rfl
        have hl'len : l'.length ≤ 200 := by simp at h200; omega
        have C1 := split_basP l' 41 41 rfl (by omega) w
        have hFle := spl_len 41 l'
        have hy : ∀ N, gpsOf (spl 41 l') = some N → CdG N → cdt N = l' ++ [41] := fun N h hN => cdt_candD hN h
        have hn1 : ∀ M, CdG M → cdt M = l' ++ [41] → gpsOf (spl 41 l') = some M := fun M hM e => candD_cdt hM e
        have HPL := fun x hx => piece_len 41 (xs := spl 41 l') x hx
        rw [join_spl] at HPL
        obtain ⟨F, hF⟩ : ∃ F, F = spl 41 l' := ⟨_, rfl⟩
        rw [← hF] at C1 hFle hy hn1 HPL
        obtain ⟨S', hS'⟩ : ∃ S', bas l' = S' := ⟨_, rfl⟩
        rw [hS'] at C1 hex
        have C1 := Lib.hid C1
        have HY := Lib.hid hy
        have HN1 := Lib.hid hn1
        have HPL := Lib.hid HPL
        have hF200 : F.length ≤ 201 := by omega
        obtain ⟨i0, hi, hz0, hz1, hzb⟩ := info_parts infoInt
        obtain ⟨j0, hj, hy0, hy1, hy2⟩ := info_parts infoSl
        rw [hSS]
        clear hSS hF hS' hy hn1 hFle hdt hget hc hsz hk h3 h200
        go_enter Tryz.func9, Tryz.ntmps9
        go_wp2_with fail
        (try rw [hex])
        (with_reducible refine C1.out.mono ?_)
        rintro e w2 ⟨Af, cf, rfl, ho, hb2⟩
        have hcap := own_cap ho
        have HTX : Hid (∀ j t, F[j]? = some t → ∃ g, Af = some ⟨g, 0, none⟩ ∧ g < w2.heap.size ∧ w2.cell? ⟨g, j, none⟩ = some (.string (bas t))) := Lib.hid (fun j t hj => by
          have hjl := (List.getElem?_eq_some_iff.1 hj).1
          obtain ⟨g, rfl⟩ := own_form ho (by omega)
          have h := TxAt.of_own ho (by omega)
          exact ⟨g, rfl, h.1, h.2 j t hj⟩)
        clear C1 ho
        go_wp2_with fail
        go_loopw [4, 35] (fun v i wr => ∃ (k : Nat) (A1 : Option Addr) (c1 : Nat) (R : List Rw), i = .int .i64 k ∧ v = .slice A1 R.length c1 ∧ Gps F k (lists R) ∧ (∀ g ∈ lists R, g.length ≤ 1000) ∧ OwnSS wr w2.heap.size A1 R.length c1 R ∧ Below w2.heap.size w2 wr) (fun _ i _ => F.length - (intOf i).toNat)
        case atStart => exact ⟨0, none, 0, [], rfl, rfl, Gps.zero F, by simp [lists], OwnSS.nil _ _, Below.refl _ _⟩
        case round =>
          obtain ⟨k2, A1, c1, R, rfl, rfl, hG, hgl, hR, hbr⟩ := hrel
          have hRk : R.length = k2 := by have := hG.len; rw [lists_len] at this; exact this
          have hk2 := hG.1
          have hbw : Below w.heap.size w wr := hb2.trans (hbr.mono hb2.size)
          by_cases hlt : k2 < F.length
          · obtain ⟨t, ht⟩ : ∃ t, F[k2]? = some t := ⟨_, List.getElem?_eq_getElem hlt⟩
            obtain ⟨gf, rfl, hg2, e0⟩ := HTX.out k2 t ht
            have e0 : wr.cell? ⟨gf, k2, none⟩ = some (.string (bas t)) := (hbr.cell (p := ⟨gf, k2, none⟩) hg2).trans e0
            have htl : t.length ≤ 200 := by have := HPL.out t (List.mem_of_getElem? ht); omega
            have i1 : (0 : Int) ≤ (k2 : Int) := by omega
            have i2 : (k2 : Int) < (F.length : Int) := by omega
            obtain ⟨St, hSt⟩ : ∃ S, bas t = S := ⟨_, rfl⟩
            have hst : St.size = t.length := by rw [← hSt, bas_size]
            have hsd : St.data.toList = t := by rw [← hSt, bas_data]
            rw [hSt] at e0
            have HG := Lib.hid hG
            have HT := Lib.hid ht
            cases hgp : gpo t with
            | none =>
              have hno : ∀ M, CdG M → cdt M ≠ l' ++ [41] := fun M hM e => by
                have := hG.bad ht hgp
                rw [HN1.out M hM e] at this; cases this
              have HN := Lib.hid hno
              by_cases ht0 : t.length = 0
              · have y1 : (St.size : Int) = 0 := by omega
                have y2 : St.size = 0 := by omega
                clear hno hG ht hgp hR hSt hsd hst hRk
                go_wp2_with fail
                first
                | (go_ret2; exact ⟨hbw, .inr ⟨HN.out, rfl⟩⟩)
                | (go_ret; exact ⟨hbw, .inr ⟨HN.out, rfl⟩⟩)
                | exact ⟨hbw, .inr ⟨HN.out, rfl⟩⟩
              · have y1 : ¬ (St.size : Int) = 0 := by omega
                have y2 : ¬ St.size = 0 := by omega
                have y0 : 0 < St.size := by omega
                have y00 : (0 : Int) < (St.size : Int) := by omega
                have hg0 := get0 St y0
                rw [hsd] at hg0
                have y3 : ¬ ((St[0]'y0).toNat : Int) = 40 := fun h => by
                  have e40 : St[0]'y0 = 40 := UInt8.toNat_inj.1 (by have : (40 : UInt8).toNat = 40 := rfl; omega)
                  cases t with
                  | nil => simp at ht0
                  | cons a r =>
                    have : a = St[0]'y0 := by simpa using hg0
                    rw [e40] at this
                    unfold gpo at hgp
                    simp only [this, if_true] at hgp
                    cases hgp
                have y5 : (((((St[0]'y0).toNat : Nat) : Int)) != 40) = true := by simpa using y3
                clear hno hG ht hgp hR hSt hsd hg0 hst hRk ht0 htl
                go_wp2_with fail
                all_goals first
                | (go_ret2; exact ⟨hbw, .inr ⟨HN.out, rfl⟩⟩)
                | (exfalso; simp_all; done)
            | some g =>
              obtain ⟨r, rfl, rfl⟩ := gpo_inv hgp
              have hG' := hG.succ ht hgp
              have HG' := Lib.hid hG'
              have y0 : 0 < St.size := by rw [hst]; simp
              have y00 : (0 : Int) < (St.size : Int) := by omega
              have y1 : ¬ (St.size : Int) = 0 := by omega
              have y2 : ¬ St.size = 0 := by omega
              have y4 : (1 : Int) ≤ (St.size : Int) := by omega
              have hg0 := get0 St y0
              rw [hsd] at hg0
              have y3 : ((St[0]'y0).toNat : Int) = 40 := by
                have : (40 : UInt8) = St[0]'y0 := by simpa using hg0
                rw [← this]; rfl
              have hex2 : St.extract 1 St.size = bas r := by
                rw [extract_bas St 1 St.size (Nat.le_refl _), hsd, List.take_of_length_le (by rw [hst]; exact Nat.le_refl _)]; rfl
              have hrl : r.length ≤ 200 := by simp at htl; omega
              have C2 := split_basP r 44 44 rfl (by omega) wr
              have hF2 := spl_len 44 r
              have HPL2 := fun x hx => piece_len 44 (xs := spl 44 r) x hx
              rw [join_spl] at HPL2
              have hgro : gro r = (spl 44 r).map rdI := rfl
              obtain ⟨F2, hF2'⟩ : ∃ F2, F2 = spl 44 r := ⟨_, rfl⟩
              rw [← hF2'] at C2 hF2 HPL2 hgro
              obtain ⟨Sr, hSr⟩ : ∃ S, bas r = S := ⟨_, rfl⟩
              rw [hSr] at C2 hex2
              have C2 := Lib.hid C2
              have HGR := Lib.hid hgro
              have hF2l : F2.length ≤ 201 := by omega
              have HR := Lib.hid hR
              have HBW := Lib.hid hbw
              have hR201 : R.length ≤ 201 := by omega
              have HRK := Lib.hid hRk
              clear hG hG' ht hgp hSt hsd hg0 hF2' hSr hgro hst hRk
              go_wp2_with fail
              (try rw [hex2])
              (with_reducible refine C2.out.mono ?_)
              rintro e w4 ⟨A5, c5, rfl, ho5, hb4⟩
              have hcap5 := own_cap ho5
              have HTX2 : Hid (∀ j t, F2[j]? = some t → ∃ g, A5 = some ⟨g, 0, none⟩ ∧ g < w4.heap.size ∧ w4.cell? ⟨g, j, none⟩ = some (.string (bas t))) := Lib.hid (fun j t hj => by
                have hjl := (List.getElem?_eq_some_iff.1 hj).1
                obtain ⟨g, rfl⟩ := own_form ho5 (by omega)
                have h := TxAt.of_own ho5 (by omega)
                exact ⟨g, rfl, h.1, h.2 j t hj⟩)
              have hR4 := hR.keep hb4
              have hbr4 := hbr.trans (hb4.mono hbr.size)
              have hbw4 := hbw.trans (hb4.mono hbw.size)
              clear C2 ho5 hR hbr hbw
              go_wp2_with fail
              go_loopw [7, 51] (fun v i wq => ∃ (j : Nat) (A6 : Option Addr) (c6 : Nat) (L : List Int), j ≤ F2.length ∧ i = .int .i64 j ∧ v = .slice A6 j c6 ∧ L = (F2.take j).map rdI ∧ wq.ownsRow w4.heap.size 3 1 (.slice A6 j c6) j (ints L) ∧ Below w4.heap.size w4 wq) (fun _ i _ => F2.length - (intOf i).toNat)
              case atStart => exact ⟨0, none, 0, [], Nat.zero_le _, rfl, rfl, rfl, World.ownsRow_nil _ _ _ _, Below.refl _ _⟩
              case round =>
                obtain ⟨j, A6, c6, L, hj6, rfl, rfl, hL, ho6, hbq⟩ := hrel
                by_cases hlt2 : j < F2.length
                · obtain ⟨u, hu⟩ : ∃ u, F2[j]? = some u := ⟨_, List.getElem?_eq_getElem hlt2⟩
                  obtain ⟨gu, rfl, hgu, e1⟩ := HTX2.out j u hu
                  have e1 : wr.cell? ⟨gu, j, none⟩ = some (.string (bas u)) := (hbq.cell (p := ⟨gu, j, none⟩) hgu).trans e1
                  have CR := read_any (bas u) wr
                  rw [bas_data] at CR
                  obtain ⟨Su, hSu⟩ : ∃ S, bas u = S := ⟨_, rfl⟩
                  rw [hSu] at e1 CR
                  obtain ⟨d, hd⟩ : ∃ d, d = rdI u := ⟨_, rfl⟩
                  rw [← hd] at CR
                  have CR := Lib.hid CR
                  have i3 : (0 : Int) ≤ (j : Int) := by omega
                  have i4 : (j : Int) < (F2.length : Int) := by omega
                  have HL : Hid (L ++ [d] = (F2.take (j + 1)).map rdI) := Lib.hid (by rw [hL, hd, List.take_succ, hu]; simp)
                  have hlL : (ints L).length = j := by have := ho6.1; simpa using this
                  have hbl : j + 1 ≤ maxLen := by unfold maxLen; omega
                  have hby : (j + 1) * 8 ≤ 140737488355328 := by omega
                  have hzq := hbq.size
                  have HO6 := Lib.hid ho6
                  clear hu hSu hd hL ho6
                  go_wp2_with fail
                  (with_reducible refine CR.out.mono ?_)
                  rintro e w' ⟨rfl, rfl⟩
                  go_wp2_with (at_builtin; refine app_list rfl _ _ _ rfl w4.heap.size 3 i0 (.int .i64 0) 1 8 Tryz.underlying32 hi hz0 hz1 hzb rfl (by decide) (.slice A6 j c6) j _ rfl (HO6.out.alloc _) (some ⟨wr.heap.size, 0, none⟩) 1 1 [.int .i64 d] rfl rfl (.inr ⟨_, rfl, new1 _ _ _⟩) (one1 _ rfl) hbl hby (by simp; omega) ?_; intro v' w6 hown6 hgrow hv6)
                  have hB6 : Below w4.heap.size w4 w6 := (hbq.alloc hzq _).grown hgrow (by simp; omega) (fun kk hkk => (HO6.out.lt kk hkk).1)
                  obtain ⟨A7, c7, rfl⟩ := own_val hown6
                  have HO7 : Hid (w6.ownsRow w4.heap.size 3 1 (.slice A7 (j + 1) c7) (j + 1) (ints (L ++ [d]))) := by
                    show w6.ownsRow _ _ _ _ _ _
                    rw [ints_app]; exact hown6
                  clear hgrow hown6 hv6
                  go_wp2_with fail
                  go_roundw
                  case rel => exact ⟨j + 1, A7, c7, _, by omega, by go_num, rfl, HL.out, HO7.out, hB6⟩
                  case measure => simp [intOf]; omega
                · obtain rfl : j = F2.length := by omega
                  rw [List.take_of_length_le (Nat.le_refl _), ← HGR.out] at hL
                  have hLl : L.length = F2.length := by rw [hL, HGR.out]; simp
                  have i4 : ¬ (F2.length : Int) < (F2.length : Int) := by omega
                  have hbrq := hbr4.trans (hbq.mono hbr4.size)
                  have hRq := hR4.keep hbq
                  have hG6 : Gps F (k2 + 1) (lists (R ++ [⟨A6, c6, L⟩])) := by
                    rw [lists_app, hL]; simpa [lists] using HG'.out
                  have HG6 := Lib.hid hG6
                  have hgl6 : ∀ g ∈ lists (R ++ [⟨A6, c6, L⟩]), g.length ≤ 1000 := fun g hg => by
                    rw [lists_app] at hg
                    rcases List.mem_append.1 hg with h | h
                    · exact hgl g h
                    · obtain rfl : g = L := by simpa [lists] using h
                      omega
                  have HGL6 := Lib.hid hgl6
                  have hbl : R.length + 1 ≤ maxLen := by unfold maxLen; omega
                  have hby : (R.length + 1) * 24 ≤ 140737488355328 := by omega
                  have hzq := hbq.size
                  have hz4 := hbr4.size
                  have hlow : ∀ kk, Blk A1 R.length c1 R kk → kk < w4.heap.size := fun kk hkk => (hR4.lt hkk).2
                  have hrow : wr.ownsRow w4.heap.size 3 1 (Rw.mk A6 c6 L).val L.length (ints L) := by
                    unfold Rw.val; rw [hLl]; exact ho6
                  have HOQ := Lib.hid hrow
                  clear hG6 hgl6 hrow ho6 hL hR4
                  go_wp2_with (at_builtin; refine app_list rfl _ _ _ rfl w2.heap.size 32 j0 (.slice none 0 0) 1 24 Tryz.underlying22 hj hy0 hy1 hy2 rfl (by decide) (.slice A1 R.length c1) R.length _ rfl (hRq.outer.alloc _) (some ⟨wr.heap.size, 0, none⟩) 1 1 [.slice A6 F2.length c6] rfl rfl (.inr ⟨_, rfl, new1 _ _ _⟩) (one1 _ rfl) hbl hby (by simp; omega) ?_; intro v' w6 hown6 hgrow hv6)
                  have hbX : Below wr.heap.size wr (wr.alloc (.cells #[.slice A6 F2.length c6] 32)) := (Below.refl _ _).alloc (Nat.le_refl _) _
                  have hRX := hRq.keep hbX
                  have hB6 : Below w2.heap.size w2 w6 := (hbrq.trans (hbX.mono hbrq.size)).grown hgrow (by simp; omega) (fun kk hkk => (hRX.lt (.inl hkk)).1)
                  obtain ⟨A7, c7, rfl, hS7⟩ := hRX.push ⟨A6, c6, L⟩ (own_base (own_keep HOQ.out hbX) (by omega)) (fun kk hkk hkb => by
                    have h1 := hlow kk hkb
                    have h2 := (HOQ.out.lt kk hkk).1
                    omega) (by simpa [Rw.val, hLl] using hown6) hgrow hv6
                  clear hgrow hown6 hv6 hRX hRq hbX
                  go_wp2_with fail
                  go_roundw
                  case rel => exact ⟨k2 + 1, A7, c7, _, by go_num, by simp, HG6.out, HGL6.out, by simpa using hS7, hB6⟩
                  case measure => simp [intOf]; omega
          · obtain rfl : k2 = F.length := by omega
            have hall := hG.all
            have CI := bkCut_any A1 R.length c1 (lists R) wr (lists_len R) (by omega) hR.rowsZ
            have i2 : ¬ (F.length : Int) < (F.length : Int) := by omega
            have HR := Lib.hid hR
            by_cases hC : CdG (lists R)
            · have htx := HY.out _ hall hC
              have HGG := Lib.hid hC
              have HTX2 := Lib.hid htx
              have hC' : (codeR (lists R)).2.2.2 = true := hC
              have CI := Lib.hid CI
              clear hC htx hG hR hall hRk
              go_wp2_with fail
              (with_reducible refine CI.out.mono ?_)
              rintro e w8 ⟨A8, c8, rfl, _, hb8⟩
              rw [hC']
              have R8 := HR.out.keep hb8
              have B8 := hbw.trans (hb8.mono hbw.size)
              clear hb8 CI
              go_wp2_with fail
              first
              | (go_ret2; exact ⟨B8.alloc B8.size _, .inl ⟨A1, c1, R, rfl, (R8.keep ((Below.refl _ _).alloc (Nat.le_refl _) _)).based hb2.size, HGG.out, HTX2.out⟩⟩)
              | (go_ret; exact ⟨B8.alloc B8.size _, .inl ⟨A1, c1, R, rfl, (R8.keep ((Below.refl _ _).alloc (Nat.le_refl _) _)).based hb2.size, HGG.out, HTX2.out⟩⟩)
              | exact ⟨B8.alloc B8.size _, .inl ⟨A1, c1, R, rfl, (R8.keep ((Below.refl _ _).alloc (Nat.le_refl _) _)).based hb2.size, HGG.out, HTX2.out⟩⟩
            · have hno : ∀ M, CdG M → cdt M ≠ l' ++ [41] := fun M hM e => by
                have := HN1.out M hM e
                rw [hall] at this
                cases this
                exact hC hM
              have HN := Lib.hid hno
              have hC' : (codeR (lists R)).2.2.2 = false := by
                cases h : (codeR (lists R)).2.2.2 with
                | true => exact absurd h hC
                | false => rfl
              have CI := Lib.hid CI
              clear hC hno hG hR hall hRk
              go_wp2_with fail
              (with_reducible refine CI.out.mono ?_)
              rintro e w8 ⟨A8, c8, rfl, _, hb8⟩
              rw [hC']
              have B8 := hbw.trans (hb8.mono hbw.size)
              clear hb8 CI
              go_wp2_with fail
              first
              | (go_ret2; exact ⟨B8.alloc B8.size _, .inr ⟨HN.out, rfl⟩⟩)
              | (go_ret; exact ⟨B8.alloc B8.size _, .inr ⟨HN.out, rfl⟩⟩)
              | exact ⟨B8.alloc B8.size _, .inr ⟨HN.out, rfl⟩⟩
      · have ze : ¬ ((S[k]'hkl).toNat : Int) = 41 := fun h => h41 (by
          rw [hc]; exact UInt8.toNat_inj.1 (by have : (41 : UInt8).toNat = 41 := rfl; omega))
        have hno : ∀ M, CdG M → cdt M ≠ l' ++ [c] := fun M hM e => by
          obtain ⟨x, hx⟩ := cdt_last hM
          rw [hx] at e
          have := List.append_inj_right' e rfl
          exact h41 (by simpa using this.symm)
        have HN := Lib.hid hno
        rw [hSS]
        clear hno hSS hsz hdt h3 h200 hget hc hex hk
        go_enter Tryz.func9, Tryz.ntmps9
        go_wp2_with fail
        first
        | (go_ret2; exact ⟨hB, .inr ⟨HN.out, rfl⟩⟩)
        | (go_ret; exact ⟨hB, .inr ⟨HN.out, rfl⟩⟩)
        | exact ⟨hB, .inr ⟨HN.out, rfl⟩⟩
set_option maxRecDepth 100000 in
set_option maxHeartbeats 1000000 in
theorem specCp_any (l : List UInt8) (w : World) : Calls Tryz.prog 4 #[.string (bas l)] w (RetCp w l) := by
  have C1 := Lib.hid (bkParse_any l w)
  obtain ⟨S, hS⟩ : ∃ S, bas l = S := ⟨_, rfl⟩
  rw [hS] at C1 ⊢
  clear hS
  go_enter Tryz.func4, Tryz.ntmps4
  go_wp2_with fail
  (with_reducible refine C1.out.mono ?_)
  rintro e w2 ⟨hb, ⟨A, c, R, rfl, h1, h2, h3⟩ | ⟨hn, rfl⟩⟩
  · have H1 := Lib.hid h1
    have H2 := Lib.hid h2
    have H3 := Lib.hid h3
    clear h1 h2 h3 C1
    go_wp2_with fail
    first
    | (go_ret2; exact ⟨hb, .inl ⟨A, c, R, rfl, H1.out, H2.out, H3.out⟩⟩)
    | (go_ret; exact ⟨hb, .inl ⟨A, c, R, rfl, H1.out, H2.out, H3.out⟩⟩)
    | exact ⟨hb, .inl ⟨A, c, R, rfl, H1.out, H2.out, H3.out⟩⟩
  · have HN := Lib.hid hn
    clear hn C1
    go_wp2_with fail
    first
    | (go_ret2; exact ⟨hb, .inr ⟨HN.out, rfl⟩⟩)
    | (go_ret; exact ⟨hb, .inr ⟨HN.out, rfl⟩⟩)
    | exact ⟨hb, .inr ⟨HN.out, rfl⟩⟩
end Go.Proofs.YtfkifcjjkaenhaaGreatDoor
namespace Go.Proofs.YtfkifcjjkaenhaaGreatDoor
open Go.RowKit

/-- The code with a text, if there is one. -/
noncomputable def cpV (l : List UInt8) : List (List Int) × Bool := by
  classical exact if h : ∃ M, CdG M ∧ cdt M = l then (Classical.choose h, true) else ([], false)
theorem cpV_yes {l : List UInt8} {M : List (List Int)} (hG : CdG M) (e : cdt M = l) : cpV l = (M, true) := by
  have h : ∃ M, CdG M ∧ cdt M = l := ⟨M, hG, e⟩
  unfold cpV
  rw [dif_pos h]
  obtain ⟨h1, h2⟩ := Classical.choose_spec h
  rw [cdt_uniq h1 hG (h2.trans e.symm)]
theorem cpV_no {l : List UInt8} (hn : ∀ M, CdG M → cdt M ≠ l) : cpV l = ([], false) := by
  unfold cpV
  rw [dif_neg (fun ⟨M, h1, h2⟩ => hn M h1 h2)]
theorem tot_flat : ∀ M : List (List Int), tot M = M.flatten.length
  | [] => rfl
  | l :: M => by simp [tot, tot_flat M]
theorem cpV_bd (l : List UInt8) : (cpV l).1.length + tot (cpV l).1 ≤ 1048576 := by
  by_cases h : ∃ M, CdG M ∧ cdt M = l
  · obtain ⟨M, hG, e⟩ := h
    rw [cpV_yes hG e, tot_flat]
    obtain ⟨h1, h2, _⟩ := cdG_parts hG
    show M.length + M.flatten.length ≤ 1048576
    omega
  · rw [cpV_no (fun M hG e => h ⟨M, hG, e⟩)]; simp [tot]
theorem RetCp.v {w w' : World} {l : List UInt8} {e : Ending} (h : RetCp w l e w') : RetSS w (cpV l).1 (cpV l).2 e w' := by
  obtain ⟨hb, ⟨A, c, R, rfl, ho, hG, e⟩ | ⟨hn, rfl⟩⟩ := h
  · rw [cpV_yes hG e]; exact RetSS.mk rfl ho hb
  · rw [cpV_no hn]; exact RetSS.none_ hb
end Go.Proofs.YtfkifcjjkaenhaaGreatDoor
