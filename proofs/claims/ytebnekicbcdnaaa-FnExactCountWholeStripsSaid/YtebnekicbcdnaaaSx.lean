/- CountWholeStrips of the program. -/
import Derived.Test.YtebnekicbcdnaaaSu
import Derived.Test.YtebnekicbcdnaaaMake
set_option linter.all false
namespace Go.Proofs.Ytebnekicbcdnaaa
open Go.RowKit

set_option maxRecDepth 100000 in
set_option maxHeartbeats 4000000 in
theorem wf_noE (b h H m : Nat) (h1 : 1 ≤ h) (h4 : h ≤ 4) (hH : H ≤ 30) (f : List Int) (E : List (List Int × Value)) (w : World) (hf : Fl h (H : Int) f) (Q : FQ b h H m (.func (.func 54) #[] #[]) (fun _ => false) E w) : Calls Try.prog 84 #[.pointer (some ⟨b, 0, none⟩), arr (pad4 f)] w fun e w' => ∃ E', e = .returned (.int .i64 ((nS (fun _ => false) h (H : Int) f : Nat) : Int)) ∧ FQ b h H m (.func (.func 54) #[] #[]) (fun _ => false) E' w' ∧ w.grownBy w' (some m) ∧ (∀ q ∈ E', q ∈ E ∨ ∃ k, w.heap.size ≤ k ∧ q.2.ownBlock = some k) := by
  have hlen := hf.len
  obtain ⟨g0, g1, g2, g3, hg⟩ := len4 (pad4_len (f := f) (by omega))
  obtain ⟨W1, hW1⟩ : ∃ W1, W1 = w.alloc (.cells #[.int .i64 g0, .int .i64 g1, .int .i64 g2, .int .i64 g3] 82) := ⟨_, rfl⟩
  have hb1 : Below w.heap.size w W1 := by rw [hW1]; exact (Below.refl _ _).alloc (Nat.le_refl _) _
  have HB1 := Lib.hid hb1
  have C := cf_no b h H m h1 h4 hH _ f E W1 (Nat.lt_succ_self _) hf (Q.keep hb1)
  have hs := cS_sum (p := (fun _ => false)) h1 _ (Nat.le_refl _) hf
  have hsm := nS_small (q := (fun _ => false)) h1 h4 (show (H : Int) ≤ 30 by omega) hf
  have hln := cS_len (p := (fun _ => false)) h1 _ (Nat.le_refl _) hf
  have hfr := free_le hf h4 (show (H : Int) ≤ 30 by omega)
  rw [← hs] at hsm ⊢
  unfold RetQ at C
  obtain ⟨L, hL⟩ : ∃ L, cS (fun _ => false) h (H : Int) f = L := ⟨_, rfl⟩
  rw [hL] at C hln hsm ⊢
  have hL1 : L.length ≤ 1000 := by omega
  rw [hg] at C ⊢
  simp only [arr, ints, List.map_cons, List.map_nil] at C ⊢
  rw [hW1] at C
  have HW := Lib.hid hW1
  have HC := Lib.hid C
  have HSM := Lib.hid (wsum_nat hsm)
  clear C hs hsm hln hfr hL hg hW1 hb1 hlen Q hf
  go_enter Try.func84, Try.ntmps84
  go_wp2_with fail
  (with_reducible refine HC.out.mono ?_)
  rintro e w1 ⟨A, c, E', rfl, Q1, hrow, hE', _, hg1⟩
  rw [← HW.out] at hE'
  have HEE := Lib.hid hE'
  clear hE'
  have HT := Lib.hid (totalOf_any L.length c A (L.map fun (k : Nat) => (k : Int)) w1 (by simp) hL1 (nI_at hrow))
  have HQ := Lib.hid Q1
  rw [← HW.out] at hg1
  have HG := Lib.hid (grown_trans (grown_of_below HB1.out (some m)) hg1)
  rw [HSM.out] at HT
  clear hrow Q1 hg1
  go_wp2_with fail
  refine HT.out.mono ?_
  rintro e w2 ⟨rfl, hb2⟩
  have HQ2 := Lib.hid (HQ.out.keep hb2)
  have HG2 := Lib.hid (grown_trans HG.out (grown_of_below hb2 (some m)))
  clear hb2
  go_wp2_with fail
  go_ret
  exact ⟨E', rfl, HQ2.out, HG2.out, fun q hq => by
    rcases HEE.out q hq with h | ⟨k, h1, h2⟩
    · exact .inl h
    · exact .inr ⟨k, Nat.le_trans HB1.out.size h1, h2⟩⟩

/-- Whole strips by their length, less the first j terms. -/
noncomputable def whA (h : Nat) (wl : List Int) (n : Nat) : Nat → Int
  | 0 => (cntN h (n + 1) : Int)
  | j + 1 => wrap64 (whA h wl n j - wrap64 (wl.getD j 0 * (cntN h (n - j) : Int)))
noncomputable def whL (h : Nat) : Nat → List Int
  | 0 => []
  | n + 1 => whL h n ++ [whA h (whL h n) n n]
theorem whL_len (h n : Nat) : (whL h n).length = n := by
  induction n with
  | zero => rfl
  | succ n ih => simp [whL, ih]
/-- The row of whole strips, ahead of a round and in it. -/
noncomputable def row0 (a b n : Nat) : List Int := 0 :: (whL a n ++ List.replicate (b - n) 0)
noncomputable def rowL (a b n : Nat) (x : Int) : List Int := 0 :: (whL a n ++ x :: List.replicate (b - (n + 1)) 0)
theorem row0_set {a b n : Nat} (h : n < b) (v : Int) : (row0 a b n).set (n + 1) v = rowL a b n v := by
  unfold row0 rowL
  rw [show b - n = (b - (n + 1)) + 1 by omega, List.replicate_succ, List.set_cons_succ, List.set_append, if_neg (by rw [whL_len]; omega), whL_len, Nat.sub_self, List.set_cons_zero]
theorem rowL_set (a b n : Nat) (x v : Int) : (rowL a b n x).set (n + 1) v = rowL a b n v := by
  unfold rowL
  rw [List.set_cons_succ, List.set_append, if_neg (by rw [whL_len]; omega), whL_len, Nat.sub_self, List.set_cons_zero]
theorem rowL_end (a b n : Nat) : rowL a b n (whA a (whL a n) n n) = row0 a b (n + 1) := by
  unfold rowL row0
  simp [whL]
theorem rowL_len {a b n : Nat} (h : n < b) (x : Int) : (rowL a b n x).length = b + 1 := by simp [rowL, whL_len]; omega
theorem row0_len {a b n : Nat} (h : n ≤ b) : (row0 a b n).length = b + 1 := by simp [row0, whL_len]; omega
theorem rowL_at (a b n : Nat) (x : Int) : (rowL a b n x)[n + 1]? = some x := by
  unfold rowL
  rw [List.getElem?_cons_succ, List.getElem?_append_right (by rw [whL_len]; exact Nat.le_refl _), whL_len, Nat.sub_self]
  rfl
theorem rowL_le {a b n j : Nat} (h : j < n) (x : Int) : (rowL a b n x)[j + 1]? = some ((whL a n).getD j 0) := by
  unfold rowL
  rw [List.getElem?_cons_succ, List.getElem?_append_left (by rw [whL_len]; exact h), List.getD, List.getElem?_eq_getElem (by rw [whL_len]; exact h)]
  rfl
theorem row0_at {a b n : Nat} (h : n < b) : (row0 a b n)[n + 1]? = some 0 := by
  unfold row0
  rw [show b - n = (b - (n + 1)) + 1 by omega, List.replicate_succ, List.getElem?_cons_succ, List.getElem?_append_right (by rw [whL_len]; exact Nat.le_refl _), whL_len, Nat.sub_self]
  rfl
theorem row0_last {a b : Nat} (h : 1 ≤ b) : (row0 a b b)[b]? = some ((whL a b).getD (b - 1) 0) := by
  unfold row0
  obtain ⟨c, rfl⟩ : ∃ c, b = c + 1 := ⟨b - 1, by omega⟩
  rw [List.getElem?_cons_succ, List.getElem?_append_left (by rw [whL_len]; omega), List.getD, Nat.add_sub_cancel, List.getElem?_eq_getElem (by rw [whL_len]; omega)]
  rfl
theorem ints_get1 {l : List Int} {k : Nat} {v : Int} (h : l[k]? = some v) : (ints l)[k]? = some (.int .i64 v) := by simp [ints, h]
theorem ints_set1 (l : List Int) (k : Nat) (x : Int) : (ints l).set k (.int .i64 x) = ints (l.set k x) := by simp [ints, List.map_set]
noncomputable def whV (h H : Int) : Int := if inB h 1 4 && inB H 1 30 then (whL h.toNat H.toNat).getD (H.toNat - 1) 0 else 0
set_option maxRecDepth 100000 in
set_option maxHeartbeats 4000000 in
theorem implWh_any (h H : Int) (w : World) : Calls Try.prog 47 #[.int .i64 h, .int .i64 H] w fun e w' => e = .returned (.tuple #[.int .i64 (whV h H), .bool (inB h 1 4 && inB H 1 30)]) ∧ Below w.heap.size w w' := by
  cases hok : (inB h 1 4 && inB H 1 30) with
  | false =>
    have C := newF_bad h H hok w
    have e : whV h H = 0 := by unfold whV; rw [hok]; rfl
    rw [e]
    clear hok e
    go_enter Try.func47, Try.ntmps47
    go_wp2_with fail
    refine C.mono ?_
    rintro e w' ⟨rfl, rfl⟩
    go_wp2_with fail
    go_ret2
    exact ⟨rfl, Below.refl _ _⟩
  | true =>
    obtain ⟨a, b, rfl, rfl, ha1, ha4, hb1, hb30⟩ := inB_ex hok
    obtain ⟨N, hN⟩ : ∃ N, w.heap.size = N := ⟨_, rfl⟩
    have e : whV (a : Int) (b : Int) = (whL a b).getD (b - 1) 0 := by unfold whV; rw [hok, if_pos rfl]; simp only [Int.toNat_natCast]
    rw [e]
    obtain ⟨z, hz⟩ : ∃ z, (whL a b).getD (b - 1) 0 = z := ⟨_, rfl⟩
    rw [hz]
    have HZ := Lib.hid hz
    clear hz
    obtain ⟨i0, hi, hz0, hz1, hz2⟩ := info_parts infoIntA
    have C := newF_no a b ha1 ha4 hb1 hb30 (fun _ => false) w
    rw [hN] at C ⊢
    have HC := Lib.hid C
    have HN := Lib.hid hN
    have hbl : b + 1 ≤ maxLen := by unfold maxLen; omega
    have hby : (b + 1) * 8 ≤ 140737488355328 := by omega
    have hb1' : (0 : Int) ≤ (b : Int) + 1 := by omega
    clear hok e C hN
    go_enter Try.func47, Try.ntmps47
    go_wp2_with fail
    refine HC.out.mono ?_
    rintro e w1 ⟨b', m, E, rfl, Q1, hb1', hbN, hmN, hEn⟩
    have HQ1 := Lib.hid Q1
    have HB := Lib.hid hb1'
    have HM := Lib.hid hmN
    clear Q1 hb1' hmN hbN hEn
    go_wp2_with (at_make; refine wpList_make_full _ rfl _ _ 25 rfl w1.heap.size 3 i0 (.int .i64 0) 1 Try.underlying25 hi hz0 hz1 .i64 .i64 ((b : Int) + 1) ((b : Int) + 1) (b + 1) rfl rfl rfl rfl (by rw [hz2]; omega) (by unfold maxLen; omega) (Nat.le_refl _) ?_; intro w2 hown hgrow)
    obtain ⟨B, hB⟩ : ∃ B, B = w1.heap.size := ⟨_, rfl⟩
    have hrow : w2.ownsRow B 3 1 (.slice (some ⟨B, 0, none⟩) (b + 1) (b + 1)) (b + 1) (ints (row0 a b 0)) := by
      rw [hB]
      have e : (madeCells (Value.int .i64 0).cells ((b + 1) * 1)).toList = ints (row0 a b 0) := by rw [made_intsY]; simp [row0, whL, List.replicate_succ]
      rw [← e]; exact hown
    have hb2 : Below w1.heap.size w1 w2 := (Below.refl _ _).grown hgrow (Nat.le_refl _) (by simp)
    have hEB : ∀ q ∈ E, ∀ k, q.2.ownBlock = some k → k ≠ B := fun q hq k hk => by have := (HQ1.out.rowlt hq hk).1; omega
    have HQ2 := Lib.hid (HQ1.out.keep hb2)
    have HR2 := Lib.hid hrow
    have HE2 := Lib.hid hEB
    have HB2 := Lib.hid (HB.out.trans (hb2.mono (by have := HB.out.size; have := HN.out; omega)))
    have HBN := Lib.hid (show N ≤ B ∧ m < B from ⟨by have := HB.out.size; have := HN.out; omega, by have := HQ1.out.km.lt; omega⟩)
    rw [← hB]
    clear hB hrow hb2 hEB hown hgrow
    have T1 := fun (x : Nat) (hx : x ≤ b) (b' m : Nat) (E : List (List Int × Value)) (V : World) (Q : FQ b' a b m (.func (.func 54) #[] #[]) (fun _ => false) E V) => filledTo_any b' a b m (.func (.func 54) #[] #[]) (x : Int) ha1 ha4 (by omega) V Q.sf.c0
    have HT := Lib.hid T1
    have HWF : Hid (∀ (x : Nat) (hx : x ≤ b) (E : List (List Int × Value)) (V : World) (Q : FQ b' a b m (.func (.func 54) #[] #[]) (fun _ => false) E V), Calls Try.prog 84 #[.pointer (some ⟨b', 0, none⟩), arr (pad4 (flatC a ((b - x : Nat) : Int)))] V fun e w' => ∃ E', e = .returned (.int .i64 ((cntN a x : Nat) : Int)) ∧ FQ b' a b m (.func (.func 54) #[] #[]) (fun _ => false) E' w' ∧ V.grownBy w' (some m) ∧ (∀ q ∈ E', q ∈ E ∨ ∃ k, V.heap.size ≤ k ∧ q.2.ownBlock = some k)) := Lib.hid fun x hx E V Q => by
      have := wf_noE b' a b m ha1 ha4 hb30 (flatC a ((b - x : Nat) : Int)) E V (flat_fl' (by omega)) Q
      rw [nS_flat (H := b) (n := x) ha1 hx] at this
      exact this
    clear T1
    go_loopw [9] (fun iv wr => ∃ (n1 n : Nat) (E : List (List Int × Value)), n1 = n + 1 ∧ n ≤ b ∧ iv = .int .i64 (n1 : Int) ∧ FQ b' a b m (.func (.func 54) #[] #[]) (fun _ => false) E wr ∧ wr.ownsRow B 3 1 (.slice (some ⟨B, 0, none⟩) (b + 1) (b + 1)) (b + 1) (ints (row0 a b n)) ∧ (∀ q ∈ E, ∀ k, q.2.ownBlock = some k → k ≠ B) ∧ Below N w wr) (fun iv _ => b + 1 - (intOf iv).toNat)
    case atStart => exact ⟨1, 0, E, rfl, Nat.zero_le _, rfl, HQ2.out, HR2.out, HE2.out, by rw [← HN.out]; rw [← HN.out] at HB2; exact HB2.out⟩
    case round =>
      obtain ⟨n1, n, E1, hn1, hn, rfl, Qr, hrow, hEr, hbr⟩ := hrel
      have hle1 : n < n1 := by omega
      have hle2 : n1 ≤ n + 1 := by omega
      have HN1 := Lib.hid hn1
      clear hn1
      have HQR := Lib.hid Qr
      have HRR := Lib.hid hrow
      have HER := Lib.hid hEr
      have HBR := Lib.hid hbr
      clear Qr hrow hEr hbr
      by_cases hlt : n < b
      · have i1 : (n1 : Int) ≤ (b : Int) := by omega
        have i2 : (0 : Int) ≤ (n1 : Int) := by omega
        have i3 : (n1 : Int) < (b : Int) + 1 := by omega
        have HX : Hid ((b : Int) - (n1 : Int) = ((b - n1 : Nat) : Int)) := Lib.hid (by omega)
        go_wp2_with fail
        rw [HX.out]
        refine (HT.out (b - n1) (by omega) b' m E1 wr HQR.out).mono ?_
        rintro e w3 ⟨rfl, hb3⟩
        have HQ3 := Lib.hid (HQR.out.keep hb3)
        have HR3 := Lib.hid (own_keep HRR.out hb3)
        have HS3 := Lib.hid hb3.size
        have HB3 := Lib.hid (HBR.out.trans (hb3.mono (by have := HBR.out.size; have := HN.out; omega)))
        clear hb3
        go_wp2_with fail
        refine (HWF.out n1 (by omega) E1 w3 HQ3.out).mono ?_
        rintro e w4 ⟨E4, rfl, Q4, hg4, hE4⟩
        have HQ4 := Lib.hid Q4
        have hlt3 := (HR3.out.lt B rfl).2
        have HR4 := Lib.hid (own_blk HR3.out fun k hk => hg4.block k (HR3.out.lt k hk).2 (fun e => row_not_map HQ3.out.km HR3.out hk (Option.some.inj e)))
        have HE4 : Hid (∀ q ∈ E4, ∀ k, q.2.ownBlock = some k → k ≠ B) := Lib.hid fun q hq k hk => by
          rcases hE4 q hq with h | ⟨k2, h1, h2⟩
          · exact HER.out q h k hk
          · rw [h2] at hk; have := Option.some.inj hk; omega
        have HM := HM.out
        have HB4 := Lib.hid (HB3.out.grown hg4 (by have := HB3.out.size; have := HN.out; omega) (fun j hj => by cases hj; exact HM))
        clear Q4 hg4 hE4
        have e0 : w4.cell? ⟨B, n1, none⟩ = some (.int .i64 0) := (HR4.out.cellAt n1 (by omega)).trans (by rw [HN1.out]; exact ints_get1 (row0_at hlt))
        have f0 := HR4.out.frozenAt n1
        clear hlt3
        go_wp2_with fail
        obtain ⟨wa, hwa⟩ : ∃ wa, wa = w4.setCell ⟨B, n1, none⟩ (.int .i64 ((cntN a n1 : Nat) : Int)) := ⟨_, rfl⟩
        obtain ⟨o5, g5⟩ := HR4.out.stored n1 (.int .i64 ((cntN a n1 : Nat) : Int))
        rw [← hwa] at o5 g5
        have Q5 : FQ b' a b m (.func (.func 54) #[] #[]) (fun _ => false) E4 wa := HQ4.out.row HR4.out g5 (fun q hq k hk e => HE4.out q hq k hk (Option.some.inj e).symm)
        have HQ5 := Lib.hid Q5
        have hrowL : (ints (row0 a b n)).set n1 (.int .i64 ((cntN a n1 : Nat) : Int)) = ints (rowL a b n (whA a (whL a n) n 0)) := by
          rw [ints_set1, HN1.out, row0_set hlt]; rfl
        rw [hrowL] at o5
        have HR5 := Lib.hid o5
        have HB5 := Lib.hid (HB4.out.grown g5 (by have := HB4.out.size; have := HN.out; omega) (fun j hj => by cases hj; exact HBN.out.1))
        rw [← hwa]
        clear hwa o5 g5 Q5 hrowL e0 f0
        go_loopw [10] (fun fv wr => ∃ (j1 j : Nat) (E5 : List (List Int × Value)), j1 = j + 1 ∧ j ≤ n ∧ fv = .int .i64 (j1 : Int) ∧ FQ b' a b m (.func (.func 54) #[] #[]) (fun _ => false) E5 wr ∧ wr.ownsRow B 3 1 (.slice (some ⟨B, 0, none⟩) (b + 1) (b + 1)) (b + 1) (ints (rowL a b n (whA a (whL a n) n j))) ∧ (∀ q ∈ E5, ∀ k, q.2.ownBlock = some k → k ≠ B) ∧ Below N w wr) (fun fv _ => n + 1 - (intOf fv).toNat)
        case atStart => exact ⟨1, 0, E4, rfl, Nat.zero_le _, rfl, HQ5.out, HR5.out, HE4.out, by rw [← HN.out]; rw [← HN.out] at HB5; exact HB5.out⟩
        case round =>
          obtain ⟨j1, j, E5, hj1, hj, rfl, Qr, hrow, hEr, hbr⟩ := hrel
          have hle3 : j < j1 := by omega
          have hle4 : j1 ≤ j + 1 := by omega
          have HJ1 := Lib.hid hj1
          clear hj1
          have HQS := Lib.hid Qr
          have HRS := Lib.hid hrow
          have HES := Lib.hid hEr
          have HBS := Lib.hid hbr
          clear hrow hEr hbr
          by_cases hltj : j < n
          · obtain ⟨x, hx⟩ : ∃ x, whA a (whL a n) n j = x := ⟨_, rfl⟩
            obtain ⟨y, hy⟩ : ∃ y, (whL a n).getD j 0 = y := ⟨_, rfl⟩
            obtain ⟨v, hv⟩ : ∃ v, cntN a (n - j) = v := ⟨_, rfl⟩
            have HV := Lib.hid hv
            have HNX : Hid (whA a (whL a n) n (j + 1) = wrap64 (x - wrap64 (y * (v : Int)))) := Lib.hid (by rw [whA, hx, hy, hv])
            rw [hx] at HRS
            have c0 : wr.cell? ⟨B, n1, none⟩ = some (.int .i64 x) := (HRS.out.cellAt n1 (by omega)).trans (by rw [HN1.out]; exact ints_get1 (rowL_at _ _ _ _))
            have c1 : wr.cell? ⟨B, j1, none⟩ = some (.int .i64 y) := (HRS.out.cellAt j1 (by omega)).trans (by rw [HJ1.out, ← hy]; exact ints_get1 (rowL_le hltj _))
            have hBl := (HRS.out.lt B rfl).2
            have hS1 : ∀ w', Below wr.heap.size wr w' → w'.cell? ⟨B, n1, none⟩ = some (.int .i64 x) ∧ w'.cell? ⟨B, j1, none⟩ = some (.int .i64 y) := fun w' hb => ⟨(hb.cell (p := ⟨B, n1, none⟩) hBl).trans c0, (hb.cell (p := ⟨B, j1, none⟩) hBl).trans c1⟩
            have HS1 := Lib.hid hS1
            have k1 : (j1 : Int) < (n1 : Int) := by omega
            have k2 : (0 : Int) ≤ (j1 : Int) := by omega
            have k3 : (j1 : Int) < (b : Int) + 1 := by omega
            have HX2 : Hid (IntKind.i64.wrap (IntKind.i64.wrap ((b : Int) - (n1 : Int)) + (j1 : Int)) = ((b - (n - j) : Nat) : Int)) := Lib.hid (by rw [IntWalk.i64_in ((b : Int) - (n1 : Int)) (by omega), IntWalk.i64_in _ (by omega)]; omega)
            clear hx hy hv hS1 Qr hBl
            go_wp2_with fail
            refine wp_region_top 20 (fun w' => w'.cell? ⟨B, n1, none⟩ = some (.int .i64 x) ∧ w'.cell? ⟨B, j1, none⟩ = some (.int .i64 y)) (by kernel_rfl) (⟨c0, c1⟩) (fun hHeld => ?_)
            refine wpTop.take 0 (v := ?_) rfl (by kernel_rfl) (by kernel_rfl) (by kernel_rfl) (by kernel_rfl) (fun _ _ _ h => h) (Or.inl ⟨by rfl, ?_⟩) (by assumption) ?_
            rotate_left
            · intro w hSw; (try dsimp only at hSw); go_simp; try (with_reducible rfl)
            try simp only [Act.put, List.getElem_toArray, List.getElem_cons_zero, List.getElem_cons_succ, List.setIfInBounds_toArray, List.set_cons_zero, List.set_cons_succ]
            refine wpTop.take 1 (v := ?_) rfl (by kernel_rfl) (by kernel_rfl) (by kernel_rfl) (by kernel_rfl) (fun _ _ _ h => h) (Or.inl ⟨by rfl, ?_⟩) (by assumption) ?_
            rotate_left
            · intro w hSw; (try dsimp only at hSw); go_simp; try (with_reducible rfl)
            try simp only [Act.put, List.getElem_toArray, List.getElem_cons_zero, List.getElem_cons_succ, List.setIfInBounds_toArray, List.set_cons_zero, List.set_cons_succ]
            refine wpTop.take 2 (v := ?_) rfl (by kernel_rfl) (by kernel_rfl) (by kernel_rfl) (by kernel_rfl) (fun _ _ _ h => h) (Or.inl ⟨by rfl, ?_⟩) (by assumption) ?_
            rotate_left
            · intro w hSw; (try dsimp only at hSw); go_simp; try (with_reducible rfl)
            try simp only [Act.put, List.getElem_toArray, List.getElem_cons_zero, List.getElem_cons_succ, List.setIfInBounds_toArray, List.set_cons_zero, List.set_cons_succ]
            refine wpTop.take 3 (v := ?_) rfl (by kernel_rfl) (by kernel_rfl) (by kernel_rfl) (by kernel_rfl) (fun _ _ _ h => h) (Or.inl ⟨by rfl, ?_⟩) (by assumption) ?_
            rotate_left
            · intro w hSw; (try dsimp only at hSw); go_simp; try (with_reducible rfl)
            try simp only [Act.put, List.getElem_toArray, List.getElem_cons_zero, List.getElem_cons_succ, List.setIfInBounds_toArray, List.set_cons_zero, List.set_cons_succ]
            refine wpTop.take 4 (v := ?_) rfl (by kernel_rfl) (by kernel_rfl) (by kernel_rfl) (by kernel_rfl) (fun _ _ _ h => h) (Or.inl ⟨by rfl, ?_⟩) (by assumption) ?_
            rotate_left
            · intro w hSw; (try dsimp only at hSw); go_simp; try (with_reducible rfl)
            try simp only [Act.put, List.getElem_toArray, List.getElem_cons_zero, List.getElem_cons_succ, List.setIfInBounds_toArray, List.set_cons_zero, List.set_cons_succ]
            refine wpTop.take 5 (v := ?_) rfl (by kernel_rfl) (by kernel_rfl) (by kernel_rfl) (by kernel_rfl) (fun _ _ _ h => h) (Or.inl ⟨by rfl, ?_⟩) (by assumption) ?_
            rotate_left
            · intro w hSw; (try dsimp only at hSw); go_simp; try (with_reducible rfl)
            try simp only [Act.put, List.getElem_toArray, List.getElem_cons_zero, List.getElem_cons_succ, List.setIfInBounds_toArray, List.set_cons_zero, List.set_cons_succ]
            refine wpTop.take 6 (v := ?_) rfl (by kernel_rfl) (by kernel_rfl) (by kernel_rfl) (by kernel_rfl) (fun _ _ _ h => h) (Or.inl ⟨by rfl, ?_⟩) (by assumption) ?_
            rotate_left
            · intro w hSw; (try dsimp only at hSw); go_simp; try (with_reducible rfl)
            try simp only [Act.put, List.getElem_toArray, List.getElem_cons_zero, List.getElem_cons_succ, List.setIfInBounds_toArray, List.set_cons_zero, List.set_cons_succ]
            refine wpTop.take 7 (v := ?_) rfl (by kernel_rfl) (by kernel_rfl) (by kernel_rfl) (by kernel_rfl) (fun _ _ _ h => h) (Or.inl ⟨by rfl, ?_⟩) (by assumption) ?_
            rotate_left
            · intro w hSw; (try dsimp only at hSw); go_simp; try (with_reducible rfl)
            try simp only [Act.put, List.getElem_toArray, List.getElem_cons_zero, List.getElem_cons_succ, List.setIfInBounds_toArray, List.set_cons_zero, List.set_cons_succ]
            refine wpTop.take 8 (v := ?_) rfl (by kernel_rfl) (by kernel_rfl) (by kernel_rfl) (by kernel_rfl) (fun _ _ _ h => h) (Or.inl ⟨by rfl, ?_⟩) (by assumption) ?_
            rotate_left
            · intro w hSw; (try dsimp only at hSw); go_simp; try (with_reducible rfl)
            try simp only [Act.put, List.getElem_toArray, List.getElem_cons_zero, List.getElem_cons_succ, List.setIfInBounds_toArray, List.set_cons_zero, List.set_cons_succ]
            refine wpTop.take 9 (v := ?_) rfl (by kernel_rfl) (by kernel_rfl) (by kernel_rfl) (by kernel_rfl) (fun _ _ _ h => h) (Or.inl ⟨by rfl, ?_⟩) (by assumption) ?_
            rotate_left
            · intro w hSw; (try dsimp only at hSw); go_simp; try (with_reducible rfl)
            try simp only [Act.put, List.getElem_toArray, List.getElem_cons_zero, List.getElem_cons_succ, List.setIfInBounds_toArray, List.set_cons_zero, List.set_cons_succ]
            refine wpTop.take 10 (v := ?_) rfl (by kernel_rfl) (by kernel_rfl) (by kernel_rfl) (by kernel_rfl) (fun _ _ _ h => h) (Or.inl ⟨by rfl, ?_⟩) (by assumption) ?_
            rotate_left
            · intro w hSw; (try dsimp only at hSw); go_simp; try (with_reducible rfl)
            try simp only [Act.put, List.getElem_toArray, List.getElem_cons_zero, List.getElem_cons_succ, List.setIfInBounds_toArray, List.set_cons_zero, List.set_cons_succ]
            refine wpTop.take 11 (v := ?_) rfl (by kernel_rfl) (by kernel_rfl) (by kernel_rfl) (by kernel_rfl) (fun _ _ _ h => h) (Or.inl ⟨by rfl, ?_⟩) (by assumption) ?_
            rotate_left
            · intro w hSw; (try dsimp only at hSw); go_simp; try (with_reducible rfl)
            try simp only [Act.put, List.getElem_toArray, List.getElem_cons_zero, List.getElem_cons_succ, List.setIfInBounds_toArray, List.set_cons_zero, List.set_cons_succ]
            refine wpTop.take 12 (v := ?_) rfl (by kernel_rfl) (by kernel_rfl) (by kernel_rfl) (by kernel_rfl) (fun _ _ _ h => h) (Or.inl ⟨by rfl, ?_⟩) (by assumption) ?_
            rotate_left
            · intro w hSw; (try dsimp only at hSw); go_simp; try (with_reducible rfl)
            try simp only [Act.put, List.getElem_toArray, List.getElem_cons_zero, List.getElem_cons_succ, List.setIfInBounds_toArray, List.set_cons_zero, List.set_cons_succ]
            refine wpTop.take 13 (v := ?_) rfl (by kernel_rfl) (by kernel_rfl) (by kernel_rfl) (by kernel_rfl) (fun _ _ _ h => h) (Or.inl ⟨by rfl, ?_⟩) (by assumption) ?_
            rotate_left
            · intro w hSw; (try dsimp only at hSw); go_simp; try (with_reducible rfl)
            try simp only [Act.put, List.getElem_toArray, List.getElem_cons_zero, List.getElem_cons_succ, List.setIfInBounds_toArray, List.set_cons_zero, List.set_cons_succ]
            refine wpTop.take 14 (v := ?_) rfl (by kernel_rfl) (by kernel_rfl) (by kernel_rfl) (by kernel_rfl) (fun _ _ _ h => h) (Or.inl ⟨by rfl, ?_⟩) (by assumption) ?_
            rotate_left
            · intro w hSw; (try dsimp only at hSw); go_simp; try (with_reducible rfl)
            try simp only [Act.put, List.getElem_toArray, List.getElem_cons_zero, List.getElem_cons_succ, List.setIfInBounds_toArray, List.set_cons_zero, List.set_cons_succ]
            refine wpTop.one 15 rfl (by kernel_rfl) (fun K hK => ?_)
            go_simp
            rw [HX2.out]
            have QD := HQS.out.step (w' := wr.drew) rfl rfl (fun q hq k' hk' => rfl)
            (with_reducible refine (HT.out (b - (n - j)) (by omega) b' m E5 _ QD).mono ?_)
            rintro e w5 ⟨rfl, hb5⟩
            have hbd5 : Below wr.heap.size wr w5 := ((Below.refl wr.heap.size wr).drew).trans hb5
            have HQ6 := Lib.hid (QD.keep hb5)
            have HBD5 := Lib.hid hbd5
            clear QD hb5
            refine hK.out _ _ (fun _ => HS1.out _ hbd5) (fun hH => ?_)
            clear hK K
            have hHeld := hH (by decide)
            clear hH
            try simp only [Act.put, List.getElem_toArray, List.getElem_cons_zero, List.getElem_cons_succ, List.setIfInBounds_toArray, List.set_cons_zero, List.set_cons_succ]
            refine wpTop.one 16 rfl (by kernel_rfl) (fun K hK => ?_)
            go_simp
            (with_reducible refine (HWF.out (n - j) (by omega) E5 w5 HQ6.out).mono ?_)
            rw [HV.out]
            rintro e w6 ⟨E6, rfl, Q7, hg6, hE6⟩
            have HQ7 := Lib.hid Q7
            have ho5 := own_keep HRS.out HBD5.out
            have ho6 := own_blk ho5 fun k hk => hg6.block k (ho5.lt k hk).2 (fun e => row_not_map HQ6.out.km ho5 hk (Option.some.inj e))
            have HO6 := Lib.hid ho6
            have HG6 := Lib.hid hg6
            have HE6 := Lib.hid hE6
            have f6 := ho6.frozenAt n1
            have d0 : w6.cell? ⟨B, n1, none⟩ = some (.int .i64 x) := (ho6.cellAt n1 (by omega)).trans (by rw [HN1.out]; exact ints_get1 (rowL_at _ _ _ _))
            have d1 : w6.cell? ⟨B, j1, none⟩ = some (.int .i64 y) := by
              have e1 := hg6.block B (ho5.lt B rfl).2 (fun e => row_not_map HQ6.out.km ho5 rfl (Option.some.inj e))
              have e2 := (HS1.out _ HBD5.out).2
              simp only [World.cell?] at e2 ⊢
              rw [e1]; exact e2
            clear Q7 ho5 ho6 hg6 hE6
            refine hK.out _ _ (fun _ => ⟨d0, d1⟩) (fun hH => ?_)
            clear hK K
            have hHeld := hH (by decide)
            clear hH
            try simp only [Act.put, List.getElem_toArray, List.getElem_cons_zero, List.getElem_cons_succ, List.setIfInBounds_toArray, List.set_cons_zero, List.set_cons_succ]
            refine wpTop.take 17 (v := ?_) rfl (by kernel_rfl) (by kernel_rfl) (by kernel_rfl) (by kernel_rfl) (fun _ _ _ h => h) (Or.inl ⟨by rfl, ?_⟩) (by assumption) ?_
            rotate_left
            · intro w hSw; (try dsimp only at hSw); go_simp; try (with_reducible rfl)
            try simp only [Act.put, List.getElem_toArray, List.getElem_cons_zero, List.getElem_cons_succ, List.setIfInBounds_toArray, List.set_cons_zero, List.set_cons_succ]
            refine wpTop.take 18 (v := ?_) rfl (by kernel_rfl) (by kernel_rfl) (by kernel_rfl) (by kernel_rfl) (fun _ _ _ h => h) (Or.inl ⟨by rfl, ?_⟩) (by assumption) ?_
            rotate_left
            · intro w hSw; (try dsimp only at hSw); go_simp; try (with_reducible rfl)
            try simp only [Act.put, List.getElem_toArray, List.getElem_cons_zero, List.getElem_cons_succ, List.setIfInBounds_toArray, List.set_cons_zero, List.set_cons_succ]
            refine wpTop.take 19 (v := ?_) rfl (by kernel_rfl) (by kernel_rfl) (by kernel_rfl) (by kernel_rfl) (fun _ _ _ h => h) (Or.inl ⟨by rfl, ?_⟩) (by assumption) ?_
            rotate_left
            · intro w hSw; (try dsimp only at hSw); go_simp; try (with_reducible rfl)
            try simp only [Act.put, List.getElem_toArray, List.getElem_cons_zero, List.getElem_cons_succ, List.setIfInBounds_toArray, List.set_cons_zero, List.set_cons_succ]
            refine wpTop.one 20 rfl (by kernel_rfl) (fun K hK => ?_)
            go_simp

            refine hK.out _ _ (fun h => absurd h (by decide)) (fun hH => ?_)
            clear hK K
            clear hH
            try simp only [Act.put, List.getElem_toArray, List.getElem_cons_zero, List.getElem_cons_succ, List.setIfInBounds_toArray, List.set_cons_zero, List.set_cons_succ]
            refine wpTop.all (by kernel_rfl) ?_ _
            go_wp2_with fail
            obtain ⟨o7, g7⟩ := HO6.out.stored n1 (.int .i64 (wrap64 (x - wrap64 (y * (v : Int)))))
            have hset : (ints (rowL a b n x)).set n1 (.int .i64 (wrap64 (x - wrap64 (y * (v : Int))))) = ints (rowL a b n (whA a (whL a n) n (j + 1))) := by rw [ints_set1, HN1.out, rowL_set, HNX.out]
            rw [hset] at o7
            have hsz := HBD5.out.size
            have hBl := (HRS.out.lt B rfl).2
            have hE7 : ∀ q ∈ E6, ∀ k, q.2.ownBlock = some k → k ≠ B := fun q hq k hk => by
              rcases HE6.out q hq with h | ⟨k2, h1, h2⟩
              · exact HES.out q h k hk
              · rw [h2] at hk; have := Option.some.inj hk; omega
            have hQ8 := HQ7.out.row HO6.out g7 (fun q hq k hk e => hE7 q hq k hk (Option.some.inj e).symm)
            have hwr := HBS.out.size
            have hnn := HN.out
            have hB7 := ((HBS.out.trans (HBD5.out.mono (by omega))).grown HG6.out (by omega) (fun j hj => by cases hj; exact HM)).grown g7 (by have := HG6.out.size; omega) (fun j hj => by cases hj; exact HBN.out.1)
            go_roundw
            case rel => exact ⟨j1 + 1, j + 1, E6, by rw [HJ1.out], by omega, by go_num, hQ8, o7, hE7, hB7⟩
            case measure => simp [intOf]; omega
          · have hjn : j = n := by omega
            have i5 : ¬ (j1 : Int) < (n1 : Int) := by omega
            have hr := HRS.out
            rw [hjn, rowL_end] at hr
            have HRN := Lib.hid hr
            have HQN := Lib.hid Qr
            clear hr hjn Qr
            go_wp2_with fail
            go_roundw
            case rel => exact ⟨n1 + 1, n + 1, E5, by rw [HN1.out], by omega, by go_num, HQN.out, HRN.out, HES.out, HBS.out⟩
            case measure => simp [intOf]; omega
      · have hnb : n = b := by omega
        have i1 : ¬ (n1 : Int) ≤ (b : Int) := by omega
        have hr := HRR.out
        rw [hnb] at hr
        have e0 : wr.cell? ⟨B, b, none⟩ = some (.int .i64 ((whL a b).getD (b - 1) 0)) := (hr.cellAt b (by omega)).trans (ints_get1 (row0_last hb1))
        rw [HZ.out] at e0
        have k4 : (b : Int) < (b : Int) + 1 := by omega
        clear hr hnb
        go_wp2_with fail
        go_ret2
        exact ⟨rfl, HBR.out⟩
end Go.Proofs.Ytebnekicbcdnaaa
