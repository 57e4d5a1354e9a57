/- PuzzleText: both sides, whole. -/
import Derived.Test.YtbkfenhiaedlgaaDoorPtx
set_option linter.all false
namespace Go.Proofs.YtbkfenhiaedlgaaDoor
open Go.RowKit

theorem join_ownA (mark : ByteArray) (A : Option Addr) (n c base : Nat) (R : List (List UInt8)) (w : World) (m : Nat) (hl : R.length = n) (hm : ∀ l ∈ R, l.length ≤ m) (hs : mark.size * n + m * n ≤ 1000000) (ho : w.ownsRow base 9 1 (.slice A n c) n (txs R)) (hn2 : n ≤ 1000000) :
    Calls Tryd.prog 54 #[.slice A n c, .string mark] w fun e w' => e = .returned (.string (bas (Lib.join R mark.data.toList))) ∧ Below w.heap.size w w' := by
  rcases Nat.eq_zero_or_pos n with rfl | hn
  · obtain rfl : R = [] := List.eq_nil_of_length_eq_zero hl
    refine (Tryd.strings_Join_none A c mark w).mono ?_
    rintro e w' ⟨rfl, rfl⟩
    exact ⟨rfl, Below.refl _ _⟩
  · exact join_own mark A n c base R w m hn hl hm hs ho hn2
/-- What PuzzleText returns. -/
noncomputable def ptV (W H : Int) (L : List Sq) : List UInt8 := if dc (GoodP W H L) then ptx W.toNat H.toNat L else []
theorem ptV_yes {W H : Int} {L : List Sq} (h : GoodP W H L) : ptV W H L = ptx W.toNat H.toNat L := by unfold ptV; rw [dc_true h]; rfl
theorem ptV_no {W H : Int} {L : List Sq} (h : ¬ GoodP W H L) : ptV W H L = [] := by unfold ptV; rw [dc_false h]; rfl
theorem bx_setCell {b : Nat} {V : World} {W H : Int} {A : Option Addr} {n c : Nat} (h : Bx b V W H A n c) {b' o : Nat} (hne : b ≠ b') (v : Value) : Bx b (V.setCell ⟨b', o, none⟩ v) W H A n c :=
  ⟨by simpa using h.1, (World.cell?_setCell_other _ _ _ _ (fun e => hne (by cases e; rfl))).trans h.2, (World.cell?_setCell_other _ _ _ _ (fun e => hne (by cases e; rfl))).trans h.3, (World.cell?_setCell_other _ _ _ _ (fun e => hne (by cases e; rfl))).trans h.4⟩
set_option maxRecDepth 100000 in
set_option maxHeartbeats 8000000 in
theorem implPt_any (W H : Int) (A : Option Addr) (n c : Nat) (L : List Sq) (w : World) (hl : L.length = n) (hc : n ≤ c) (hn9 : n ≤ 1048576) (hL : SqsAt w w.heap.size A L) (hT : TabOk w) :
    Calls Tryd.prog 37 #[.agg #[.int .i64 W, .int .i64 H, .slice A n c]] w (RetTx w (ptV W H L) (dc (GoodP W H L))) := by
  have B0 : Below w.heap.size w (w.alloc (.cells #[.int .i64 W, .int .i64 H, .slice A n c] 65)) := (Below.refl _ _).alloc (Nat.le_refl _) _
  have K0 := Bx.start w W H A n c 65
  have C := implIsPuz_any W H A n c L _ hl (by omega) ((hL.below B0).mono B0.size)
  by_cases hG : GoodP W H L
  · have C0 := Lib.hid (callB_yes C hG)
    rw [ptV_yes hG, dc_true hG]
    have hs := goodP_sm hG
    have hsz := hG.size
    have hW : 1 ≤ W ∧ W ≤ 6 := hsz.1.1
    have hH : 1 ≤ H ∧ H ≤ 6 := hsz.1.2
    have hn6 : n ≤ 6 := by have := hG.2.1; omega
    obtain ⟨i0, hi, hz0, hz1, hz2⟩ := info_parts infoStr
    obtain ⟨F, hF⟩ : ∃ F : Nat → List (List UInt8), F = fun k => (L.take k).map clq := ⟨_, rfl⟩
    have hF0 : F 0 = [] := by rw [hF]; simp
    have hFs : ∀ k s, L[k]? = some s → F (k + 1) = F k ++ [Lib.join [dec s.x.toNat, dec s.y.toNat, dec s.d.toNat] [46]] := fun k s h => by
      obtain ⟨hk, e⟩ := List.getElem?_eq_some_iff.1 h
      rw [hF, join3]; simp only [List.take_succ_eq_append_getElem hk, e]; simp [clq]
    have hFn : F n = L.map clq := by rw [hF]; simp only; rw [List.take_of_length_le (by omega)]
    have hFl : ∀ k, k ≤ n → (F k).length = k := fun k hk => by rw [hF]; simp; omega
    have hfin : dec W.toNat ++ 120 :: (dec H.toNat ++ 58 :: Lib.join (F n) [44]) = ptx W.toNat H.toNat L := by rw [hFn]; rfl
    have hfm : ∀ l ∈ F n, l.length ≤ 20 := by
      rw [hFn]; intro l hl'; obtain ⟨s, hsm, rfl⟩ := List.mem_map.1 hl'; exact clq_len (hs s hsm)
    have hW6 := dec_6 (n := W.toNat) (by omega)
    have hH6 := dec_6 (n := H.toNat) (by omega)
    have HF0 := Lib.hid hF0
    have HFS := Lib.hid hFs
    have HFL := Lib.hid hFl
    have HFM := Lib.hid hfm
    have HW6 := Lib.hid hW6
    have HH6 := Lib.hid hH6
    rw [← hfin]
    clear hF hF0 hFs hFn hFl hfin hfm C hG hsz hW6 hH6
    go_enter Tryd.func37, Tryd.ntmps37
    go_wp2_with fail
    (with_reducible refine C0.out.mono ?_)
    rintro e w1 ⟨rfl, hb1⟩
    have K1 := K0.next hb1
    have B1 := B0.trans (hb1.mono B0.size)
    obtain ⟨kl, k0, k1, k2⟩ := id K1
    clear hb1 C0 K0 B0
    go_wp2_with (at_make; refine wpList_make_full _ rfl _ _ 83 rfl w1.heap.size 9 i0 (.string ⟨#[]⟩) 1 Tryd.underlying83 hi hz0 hz1 .i64 .i64 n n n rfl rfl rfl rfl (by rw [hz2]; omega) (by unfold maxLen; omega) (Nat.le_refl _) ?_; intro w2 hown hgrow; have hb2 : Below w1.heap.size w1 w2 := (Below.refl _ w1).grown hgrow (Nat.le_refl _) (by simp); have K2 := K1.next hb2; obtain ⟨ql, q0, q1, q2⟩ := id K2)
    have B2 := B1.trans (hb2.mono B1.size)
    obtain ⟨g, hg⟩ : ∃ g, g = w1.heap.size := ⟨_, rfl⟩
    have hgw : w.heap.size < g := by rw [hg]; exact kl
    rw [← hg] at hown ⊢
    clear hg hgrow hb2 kl k0 k1 k2 K1 B1 ql q0 q1 q2
    go_loopw [17] (fun i wr => ∃ k : Nat, k ≤ n ∧ i = .int .i64 k ∧ Below w.heap.size w wr ∧ Bx w.heap.size wr W H A n c ∧ ∃ xs, wr.ownsRow (w.heap.size + 1) 9 1 (.slice (some ⟨g, 0, none⟩) n n) n xs ∧ xs.take k = txs (F k)) (fun i _ => n - (intOf i).toNat)
    case atStart => exact ⟨0, Nat.zero_le _, rfl, B2, K2, _, own_base hown hgw, by rw [HF0.out]; simp [txs]⟩
    case round =>
      obtain ⟨k, hk, rfl, hbr, hK, xs, ho, ht⟩ := hrel
      clear hown B2 K2
      have hzr := hbr.size
      by_cases hlt : k < n
      · obtain ⟨s, hsk⟩ : ∃ s, L[k]? = some s := ⟨_, List.getElem?_eq_getElem (by omega)⟩
        obtain ⟨b0, off, rfl, hb0, c0, c1, c2⟩ := (hL.below hbr) k s hsk
        have hsm := hs s (List.mem_of_getElem? hsk)
        have hFk := HFS.out k s hsk
        have hb1 : Below wr.heap.size wr ((wr.alloc (.cells #[.int .i64 s.x, .int .i64 s.y, .int .i64 s.d] 122)).alloc (.cells #[.int .i64 s.x, .int .i64 s.y, .int .i64 s.d] 3)) := ((Below.refl _ _).alloc (Nat.le_refl _) _).alloc (by simp) _
        have T1 := hT.below (hbr.trans (hb1.mono hbr.size))
        have II := ints_three (wr.alloc (.cells #[.int .i64 s.x, .int .i64 s.y, .int .i64 s.d] 122)) (wr.heap.size + 1) (World.size_alloc _ _) s.x s.y s.d 3
        have C1 := nt_any ⟨#[46]⟩ (by decide) (some ⟨wr.heap.size + 1, 0, none⟩) 3 3 [s.x, s.y, s.d] _ rfl (by omega) (by omega) (by intro r hr; obtain ⟨q1, q2, q3⟩ := hsm; simp at hr; rcases hr with rfl | rfl | rfl <;> omega) T1 II
        simp only [List.map_cons, List.map_nil, m46] at C1
        obtain ⟨S, hS⟩ : ∃ S, bas (Lib.join [dec s.x.toNat, dec s.y.toNat, dec s.d.toNat] [46]) = S := ⟨_, rfl⟩
        rw [hS] at C1
        have HQ := Lib.hid (show txs (F (k + 1)) = txs (F k) ++ [.string S] by rw [hFk, txs_app, ← hS]; rfl)
        have C1 := Lib.hid C1
        have i1 : (0 : Int) ≤ (k : Int) := by omega
        have i2 : (k : Int) < (n : Int) := by omega
        have HO := Lib.hid ho
        have HTK := Lib.hid ht
        clear hS hFk T1 II hsm hsk ho ht
        go_wp2_with fail
        (with_reducible refine C1.out.mono ?_)
        rintro e w3 ⟨rfl, hb3⟩
        have hb13 := hb1.trans (hb3.mono hb1.size)
        have own3 := own_keep HO.out hb13
        have hbr3 := hbr.trans (hb13.mono hbr.size)
        have hK3 := hK.next hb13
        have hgl := (own_lt own3).2
        obtain ⟨v0, e0⟩ := own_some own3 (j := k) (by omega)
        have f0 := own3.frozenAt k
        have hx := own3.1
        clear c0 c1 c2 C1 hb3 hb1 HO hb13 hbr hK
        go_wp2_with fail
        have R4 := (own3.stored k (.string S)).1
        have hB4 := hbr3.setCell (p := ⟨g, k, none⟩) (show w.heap.size ≤ g by omega) (.string S)
        have hK4 := bx_setCell hK3 (b' := g) (o := k) (by omega) (.string S)
        go_roundw
        case rel => exact ⟨k + 1, by omega, by go_num, hB4, hK4, _, R4, by rw [take_set1 _ _ _ (by omega), HTK.out, HQ.out]⟩
        case measure => simp [intOf]; omega
      · obtain rfl : k = n := by omega
        have hx := ho.1
        rw [List.take_of_length_le (by omega)] at ht
        subst ht
        obtain ⟨kl, k0, k1, k2⟩ := id hK
        have hba : ∀ o, Below wr.heap.size wr (wr.alloc o) := fun o => (Below.refl _ _).alloc (Nat.le_refl _) o
        have T1 := (hT.below (hbr.trans ((hba (.cells #[.int .i64 W, .int .i64 H] 3)).mono hbr.size)))
        have C1 := nt_any ⟨#[120]⟩ (by decide) (some ⟨wr.heap.size, 0, none⟩) 2 2 [W, H] (wr.alloc (.cells #[.int .i64 W, .int .i64 H] 3)) rfl (by omega) (by omega) (by intro r hr; simp at hr; rcases hr with rfl | rfl <;> omega) T1 (ints_two _ _ _ _)
        simp only [List.map_cons, List.map_nil, m120, join2] at C1
        have sS := bas_size (dec W.toNat ++ [120] ++ dec H.toNat)
        simp only [List.length_append, List.length_cons, List.length_nil] at sS
        obtain ⟨S, hS⟩ : ∃ S, bas (dec W.toNat ++ [120] ++ dec H.toNat) = S := ⟨_, rfl⟩
        rw [hS] at C1 sS
        have HS := Lib.hid hS
        have C1 := Lib.hid C1
        have HO := Lib.hid ho
        have hSz : S.size ≤ 20 := by have := HW6.out; have := HH6.out; omega
        have v1 : ¬ 9223372036854775807 < S.size + 1 := by omega
        have sJ := join_le (F k) [44] 20 HFM.out
        rw [HFL.out k (Nat.le_refl _)] at sJ
        have sJ2 := bas_size (Lib.join (F k) [44])
        have CJ := fun (V : World) (hh : V.ownsRow (w.heap.size + 1) 9 1 (.slice (some ⟨g, 0, none⟩) k k) k (txs (F k))) => join_ownA ⟨#[44]⟩ (some ⟨g, 0, none⟩) k k (w.heap.size + 1) (F k) V 20 (HFL.out k (Nat.le_refl _)) HFM.out (by rw [show (⟨#[44]⟩ : ByteArray).size = 1 from rfl]; omega) hh (by omega)
        simp only [m44] at CJ
        obtain ⟨J, hJ⟩ : ∃ J, bas (Lib.join (F k) [44]) = J := ⟨_, rfl⟩
        rw [hJ] at sJ2
        simp only [hJ] at CJ
        have HJ := Lib.hid hJ
        have HCJ := Lib.hid CJ
        have n58 : (⟨#[58]⟩ : ByteArray).size = 1 := rfl
        have v2 : ¬ 9223372036854775807 < (S ++ ⟨#[58]⟩).size + J.size := by simp only [ByteArray.size_append]; simp at sJ; omega
        have v3 : ¬ 9223372036854775807 < S.size + 1 + J.size := by simp at sJ; omega
        have hbel := hbr.size
        have hz := hK.lt
        clear ho hL hs T1 hS hJ CJ sS sJ sJ2 n58 hx
        go_wp2_with fail
        (with_reducible refine C1.out.mono ?_)
        rintro e w4 ⟨rfl, hb4⟩
        have hb14 := (hba _).trans (hb4.mono (hba _).size)
        have own4 := own_keep HO.out hb14
        have C2 := Lib.hid (HCJ.out w4 own4)
        have B4 := hbr.trans (hb14.mono hbr.size)
        clear hb4 C1 kl k0 k1 k2 HO own4 hba
        go_wp2_with fail
        (with_reducible refine C2.out.mono ?_)
        rintro e w5 ⟨rfl, hb5⟩
        go_wp2_with fail
        go_ret2
        have e1 : S ++ ⟨#[58]⟩ ++ J = bas (dec W.toNat ++ 120 :: (dec H.toNat ++ 58 :: Lib.join (F k) [44])) := by
          rw [← HS.out, ← HJ.out, str58, bas_app, bas_app]; simp
        exact ⟨by rw [← e1]; rfl, B4.trans (hb5.mono B4.size)⟩
  · have C0 := Lib.hid (callB_no C hG)
    rw [ptV_no hG, dc_false hG]
    clear C hG hL hl
    go_enter Tryd.func37, Tryd.ntmps37
    go_wp2_with fail
    (with_reducible refine C0.out.mono ?_)
    rintro e w1 ⟨rfl, hb1⟩
    go_wp2_with fail
    go_ret2
    exact ⟨rfl, B0.trans (hb1.mono B0.size)⟩
set_option maxRecDepth 100000 in
set_option maxHeartbeats 4000000 in
theorem specPt_any (W H : Int) (A : Option Addr) (n c : Nat) (L : List Sq) (w : World) (hl : L.length = n) (hc : n ≤ c) (hn9 : n ≤ 1048576) (hL : SqsAt w w.heap.size A L) :
    Calls Tryd.prog 35 #[.agg #[.int .i64 W, .int .i64 H, .slice A n c]] w (RetTx w (ptV W H L) (dc (GoodP W H L))) := by
  have B0 : Below w.heap.size w (w.alloc (.cells #[.int .i64 W, .int .i64 H, .slice A n c] 65)) := (Below.refl _ _).alloc (Nat.le_refl _) _
  have K0 := Bx.start w W H A n c 65
  have C := pzGood_any W H A n c L _ hl (by omega) ((hL.below B0).mono B0.size)
  by_cases hG : GoodP W H L
  · have C0 := Lib.hid (callB_yes C hG)
    rw [ptV_yes hG, dc_true hG]
    have hs := goodP_sm hG
    have hsz := hG.size
    have hn6 : n ≤ 6 := by have := hG.2.1; omega
    clear C hG
    go_enter Tryd.func35, Tryd.ntmps35
    go_wp2_with fail
    (with_reducible refine C0.out.mono ?_)
    rintro e w1 ⟨rfl, hb1⟩
    have K1 := K0.next hb1
    have B1 := B0.trans (hb1.mono B0.size)
    obtain ⟨kl, k0, k1, k2⟩ := id K1
    have C1 := Lib.hid (pzText_any W H A n c L w1 hl (by omega) (by omega) (by omega) ((hL.below B1).mono B1.size) hs)
    clear hb1 C0 K0 B0 hL hs hsz
    obtain ⟨T, hT⟩ : ∃ T, bas (ptx W.toNat H.toNat L) = T := ⟨_, rfl⟩
    rw [hT] at C1
    have HT := Lib.hid hT
    clear hT
    go_wp2_with fail
    (with_reducible refine C1.out.mono ?_)
    rintro e w2 ⟨rfl, hb2⟩
    go_wp2_with fail
    go_ret2
    exact ⟨by rw [HT.out]; rfl, B1.trans (hb2.mono B1.size)⟩
  · have C0 := Lib.hid (callB_no C hG)
    rw [ptV_no hG, dc_false hG]
    clear C hG hL hl
    go_enter Tryd.func35, Tryd.ntmps35
    go_wp2_with fail
    (with_reducible refine C0.out.mono ?_)
    rintro e w1 ⟨rfl, hb1⟩
    go_wp2_with fail
    go_ret2
    exact ⟨rfl, B0.trans (hb1.mono B0.size)⟩
end Go.Proofs.YtbkfenhiaedlgaaDoor
