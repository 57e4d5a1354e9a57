/- CodeText of both sides. -/
import Derived.Test.YtbkfenhiaedlgaaDoorCdE
import Derived.Test.YtbkfenhiaedlgaaDoorCodeQ
import Derived.Test.YtbkfenhiaedlgaaDoorSSArg
import Derived.Test.YtbkfenhiaedlgaaDoorCt
import Derived.Deep.DeepCutAuto
set_option linter.all false
namespace Go.Proofs.YtbkfenhiaedlgaaDoor
open Go.RowKit

noncomputable def cdV (M : List (List Int)) : List UInt8 := if (codeR M).2.2.2 = true then cdt M else []
theorem codeR_cases (M : List (List Int)) : (codeR M = (0, 0, [], false)) ∨ (∃ X Y R, codeR M = (X, Y, R, true) ∧ glists (grps R) = M ∧ Good X Y R ∧ (1 ≤ M.length ∧ M.length ≤ 30) ∧ ∀ l ∈ M, 1 ≤ l.length ∧ Sm l) := by
  cases hk : (fillR (wsum (M.headD [])) M.flatten).2.2 with
  | false => exact .inl (codeR_not hk)
  | true =>
    by_cases h2 : glists (grps (fillR (wsum (M.headD [])) M.flatten).2.1) = M
    · by_cases h3 : (1 ≤ M.length ∧ M.length ≤ 30) ∧ M.flatten.length ≤ 30 ∧ ∀ l ∈ M, (1 ≤ l.length ∧ l.length ≤ 30) ∧ ∀ s ∈ l, 1 ≤ s ∧ s ≤ 500
      · exact .inr ⟨_, _, _, codeR_yes hk h2, h2, fillR_good hk, h3.1, fun l hl => ⟨(h3.2.2 l hl).1.1, (h3.2.2 l hl).1.2, fun s hs => by have := (h3.2.2 l hl).2 s hs; omega⟩⟩
      · exact .inl (codeR_bad h3)
    · exact .inl (codeR_ne h2)
theorem join_empty (xs : List (List UInt8)) : Lib.join xs [] = xs.flatten := by
  cases xs with
  | nil => rfl
  | cons x r => rw [Lib.join_cons]; simp [Lib.joinTail]
theorem strE : (⟨#[]⟩ : ByteArray) = bas [] := rfl
theorem mE : (⟨#[]⟩ : ByteArray).data.toList = [] := rfl
theorem asG_lists {G : List Gp} {M : List (List Int)} {L : List Sq} (h : asG G = grps L) (h2 : glists (grps L) = M) : (G.map fun g => g.r.L) = M := by
  rw [← h2, ← h]; simp [glists, asG]
set_option maxRecDepth 100000 in
set_option maxHeartbeats 4000000 in
theorem implCd_any (A : Option Addr) (n c : Nat) (M : List (List Int)) (w : World) (hl : M.length = n) (hn : n ≤ 1048576) (hM : RowsZ w w.heap.size A M) (hwf : ∀ l ∈ M, ∀ s ∈ l, wfI s) (hT : TabOk w) :
    Calls Tryd.prog 23 #[.slice A n c] w (RetTx w (cdV M) (codeR M).2.2.2) := by
  have C1 := implCutCode_any A n c M w hl hn hM hwf
  unfold RetCode RetCut at C1
  unfold cdV
  rcases codeR_cases M with hR | ⟨X, Y, R, hR, hgl, hG, hM30, hMs⟩
  · rw [hR] at C1 ⊢
    have HC1 := Lib.hid C1
    clear C1 hR hM hwf hl
    go_enter Tryd.func23, Tryd.ntmps23
    go_wp2_with fail
    (with_reducible refine HC1.out.mono ?_)
    rintro e w1 ⟨A1, c1, rfl, o1, hb1⟩
    have hc1 := own_cap o1
    obtain ⟨w2, hw2⟩ : ∃ w2, w2 = w1.alloc (.cells #[.int .i64 0, .int .i64 0, .slice A1 0 c1] 30) := ⟨_, rfl⟩
    have hb2 : Below w1.heap.size w1 w2 := by rw [hw2]; exact (Below.refl _ _).alloc (Nat.le_refl _) _
    have K2 : Bx w1.heap.size w2 0 0 A1 0 c1 := by rw [hw2]; exact Bx.start _ _ _ _ _ _ _
    have B2 := hb1.trans (hb2.mono hb1.size)
    have o2 := own_keep o1 hb2
    have C2 := Lib.hid (groupsOf_any A1 0 c1 [] w2 rfl (by omega) (sqs_of_own o2) (fun s h => by cases h))
    obtain ⟨kl, k0, k1, k2⟩ := id K2
    go_upto_region 2 with fail
    try simp only [List.length_nil]
    rw [← hw2]
    clear hw2 HC1 o1 o2 hb1 hb2
    go_wp2_with fail
    (with_reducible refine C2.out.mono ?_)
    rintro e w3 ⟨A3, c3, G, rfl, hG3, oG, hb3⟩
    have B3 := B2.trans (hb3.mono B2.size)
    have hG0 : G = [] := by
      have := congrArg List.length hG3
      simp [asG, grps] at this
      exact this
    subst hG0
    have C3 := Lib.hid (eachT_any A3 0 c3 w2.heap.size [] w3 (by omega) oG (fun g h => by cases h) (hT.below B3))
    have C4 := Lib.hid (fun (V : World) (a : Option Addr) (cc : Nat) => Tryd.strings_Join_none a cc ⟨#[]⟩ V)
    try simp only [List.length_nil]
    clear C2 oG hG3
    go_wp2_with fail
    (with_reducible refine C3.out.mono ?_)
    rintro e w4 ⟨rfl, o4, hb4⟩
    have B4 := B3.trans (hb4.mono B3.size)
    go_wp2_with fail
    (with_reducible refine (C4.out _ _ _).mono ?_)
    rintro e w5 ⟨rfl, rfl⟩
    go_wp2_with fail
    go_ret2
    exact ⟨rfl, B4⟩
  · have hR30 : R.length ≤ 30 := hG.2.2.1.2
    rw [hR] at C1 ⊢
    rw [if_pos rfl]
    have HC1 := Lib.hid C1
    have hfine := good_fine hG
    have HMS := Lib.hid hMs
    have HGL := Lib.hid hgl
    have HM30 := Lib.hid hM30
    clear C1 hR hM hwf hl hMs hgl hM30
    go_enter Tryd.func23, Tryd.ntmps23
    go_wp2_with fail
    (with_reducible refine HC1.out.mono ?_)
    rintro e w1 ⟨A1, c1, rfl, o1, hb1⟩
    have hc1 := own_cap o1
    obtain ⟨w2, hw2⟩ : ∃ w2, w2 = w1.alloc (.cells #[.int .i64 X, .int .i64 Y, .slice A1 R.length c1] 30) := ⟨_, rfl⟩
    have hb2 : Below w1.heap.size w1 w2 := by rw [hw2]; exact (Below.refl _ _).alloc (Nat.le_refl _) _
    have K2 : Bx w1.heap.size w2 X Y A1 R.length c1 := by rw [hw2]; exact Bx.start _ _ _ _ _ _ _
    have B2 := hb1.trans (hb2.mono hb1.size)
    have o2 := own_keep o1 hb2
    have C2 := Lib.hid (groupsOf_any A1 R.length c1 R w2 rfl hR30 (sqs_of_own o2) hfine)
    obtain ⟨kl, k0, k1, k2⟩ := id K2
    go_upto_region 2 with fail
    rw [← hw2]
    clear hw2 HC1 o1 o2 hb1 hb2 hfine
    go_wp2_with fail
    (with_reducible refine C2.out.mono ?_)
    rintro e w3 ⟨A3, c3, G, rfl, hG3, oG, hb3⟩
    have B3 := B2.trans (hb3.mono B2.size)
    have hGM := asG_lists hG3 HGL.out
    have hGl : G.length = M.length := by rw [← hGM, List.length_map]
    have hGn : 1 ≤ G.length ∧ G.length ≤ 30 := by have := HM30.out; omega
    have hGs : ∀ g ∈ G, 1 ≤ g.r.L.length ∧ Sm g.r.L := fun g hg => HMS.out g.r.L (by rw [← hGM]; exact List.mem_map.2 ⟨g, hg, rfl⟩)
    have C3 := Lib.hid (eachT_any A3 G.length c3 w2.heap.size G w3 hGn.2 oG hGs (hT.below B3))
    have HGM := Lib.hid hGM
    obtain ⟨m, hm⟩ : ∃ m, G.length = m := ⟨_, rfl⟩
    rw [hm] at C3 hGn ⊢
    have HGN := Lib.hid hGs
    have HM := Lib.hid hm
    clear C2 oG hG3 hGM hGl hGs hm
    go_wp2_with fail
    (with_reducible refine C3.out.mono ?_)
    rintro e w4 ⟨rfl, o4, hb4⟩
    have B4 := B3.trans (hb4.mono B3.size)
    have o4' : w4.ownsRow w3.heap.size 9 1 (.slice (some ⟨w3.heap.size, 0, none⟩) m m) m (txs (G.map fun g => grt g.r.L)) := by
      have e : txs (G.map fun g => grt g.r.L) = G.map fun g => Value.string (bas (grt g.r.L)) := by unfold txs; rw [List.map_map]; rfl
      rw [e]; exact o4
    have CJ := join_own ⟨#[]⟩ (some ⟨w3.heap.size, 0, none⟩) m m w3.heap.size (G.map fun g => grt g.r.L) w4 210 hGn.1 (by rw [List.length_map]; exact HM.out) (fun l hl => by
      obtain ⟨g, hg, rfl⟩ := List.mem_map.1 hl
      exact grt_len (HGN.out g hg).2) (by rw [show (⟨#[]⟩ : ByteArray).size = 0 from rfl, Nat.zero_mul]; omega) o4' (by omega)
    have eJ : Lib.join (G.map fun g => grt g.r.L) (⟨#[]⟩ : ByteArray).data.toList = cdt M := by
      rw [mE, join_empty, ← HGM.out]; simp [cdt]; rfl
    rw [eJ] at CJ
    have CJ := Lib.hid CJ
    obtain ⟨SC, hSC⟩ : ∃ SC, bas (cdt M) = SC := ⟨_, rfl⟩
    rw [hSC] at CJ
    have HSC := Lib.hid hSC
    clear C3 o4 o4' eJ hSC hb4
    go_wp2_with fail
    (with_reducible refine CJ.out.mono ?_)
    rintro e w5 ⟨rfl, hb5⟩
    go_wp2_with fail
    go_ret2
    exact ⟨by rw [HSC.out]; rfl, B4.trans (hb5.mono B4.size)⟩
set_option maxRecDepth 100000 in
set_option maxHeartbeats 4000000 in
theorem specCd_any (A : Option Addr) (n c : Nat) (M : List (List Int)) (w : World) (hl : M.length = n) (hn : n ≤ 1048576) (hM : RowsZ w w.heap.size A M) :
    Calls Tryd.prog 21 #[.slice A n c] w (RetTx w (cdV M) (codeR M).2.2.2) := by
  have C1 := bkCut_any A n c M w hl hn hM
  unfold RetCode RetCut at C1
  unfold cdV
  rcases codeR_cases M with hR | ⟨X, Y, R, hR, hgl, hG, hM30, hMs⟩
  · rw [hR] at C1 ⊢
    have HC1 := Lib.hid C1
    clear C1 hR hM hl
    go_enter Tryd.func21, Tryd.ntmps21
    go_wp2_with fail
    (with_reducible refine HC1.out.mono ?_)
    rintro e w1 ⟨A1, c1, rfl, o1, hb1⟩
    clear HC1 o1
    go_wp2_with fail
    go_ret2
    exact ⟨rfl, hb1.alloc hb1.size _⟩
  · rw [hR] at C1 ⊢
    rw [if_pos rfl]
    have HC1 := Lib.hid C1
    have hn30 : n ≤ 30 := by omega
    have CB := Lib.hid (fun V (hb : Below w.heap.size w V) => bkText_any A n c M V hl hn30 ((hM.below hb).mono hb.size) (fun l h => (hMs l h).2))
    clear C1 hR hM hl hMs hgl hM30
    go_enter Tryd.func21, Tryd.ntmps21
    go_wp2_with fail
    (with_reducible refine HC1.out.mono ?_)
    rintro e w1 ⟨A1, c1, rfl, o1, hb1⟩
    clear HC1 o1
    go_wp2_with fail
    (with_reducible refine (CB.out _ (hb1.alloc hb1.size _)).mono ?_)
    rintro e w3 ⟨rfl, hb3⟩
    have B2 := hb1.alloc hb1.size (.cells #[.int .i64 X, .int .i64 Y, .slice A1 R.length c1] 30)
    go_wp2_with fail
    go_ret2
    exact ⟨rfl, B2.trans (hb3.mono B2.size)⟩
end Go.Proofs.YtbkfenhiaedlgaaDoor
