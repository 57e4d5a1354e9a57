/- PzBi, PzBs: texts in one. -/
import Derived.Test.YtpbghalljfcaoaaGreatPzLa
import Derived.Test.YtpbghalljfcaoaaGreatFill
set_option linter.all false
namespace Go.Proofs.YtpbghalljfcaoaaGreat
open Go.RowKit Go.Shelf

theorem FM.one (u : Int) : FM [u] 0 u := by
  refine ⟨rfl, fun i v h => ?_, fun i v h => by omega⟩
  match i, h with
  | 0, h => simp at h; omega
theorem FM.less {f : List Int} {x : Nat} {y u : Int} (h : FM f x y) (hu : u < y) : FM (f ++ [u]) f.length u := by
  refine ⟨by simp, fun i v hv => ?_, fun i v hi hv => ?_⟩
  · rw [List.getElem?_append] at hv
    split at hv
    · have := h.2.1 i v hv; omega
    · next hi =>
      have hi' := (List.getElem?_eq_some_iff.1 hv).1
      simp at hi'
      have e : i - f.length = 0 := by omega
      rw [e] at hv; simp at hv; omega
  · rw [List.getElem?_append, if_pos hi] at hv
    have := h.2.1 i v hv; omega
theorem FM.more {f : List Int} {x : Nat} {y u : Int} (h : FM f x y) (hu : ¬ u < y) : FM (f ++ [u]) x y := by
  have hx := (List.getElem?_eq_some_iff.1 h.1).1
  refine ⟨by rw [List.getElem?_append, if_pos hx]; exact h.1, fun i v hv => ?_, fun i v hi hv => ?_⟩
  · rw [List.getElem?_append] at hv
    split at hv
    · exact h.2.1 i v hv
    · next hi =>
      have hi' := (List.getElem?_eq_some_iff.1 hv).1
      simp at hi'
      have e : i - f.length = 0 := by omega
      rw [e] at hv; simp at hv; omega
  · rw [List.getElem?_append, if_pos (by omega)] at hv
    exact h.2.2 i v hi hv
/-- How many cuts fit the clue k alone. -/
noncomputable def bcN (W H : Int) (L : List Sq) (k : Nat) : Nat := (solV W H ((L.drop k).take 1)).length
noncomputable def bcL (W H : Int) (L : List Sq) (k : Nat) : List Int := (List.range k).map fun j => (bcN W H L j : Int)
theorem bcL_len (W H : Int) (L : List Sq) (k : Nat) : (bcL W H L k).length = k := by simp [bcL]
theorem bcL_succ (W H : Int) (L : List Sq) (k : Nat) : bcL W H L (k + 1) = bcL W H L k ++ [(bcN W H L k : Int)] := by
  unfold bcL; rw [List.range_succ, List.map_append]; rfl
/-- The best clue and its count, of the first k. -/
noncomputable def bst (W H : Int) (L : List Sq) : Nat → Nat × Nat
  | 0 => (0, 0)
  | k + 1 => if k = 0 ∨ bcN W H L k < (bst W H L k).2 then (k, bcN W H L k) else bst W H L k
theorem bst_fm (W H : Int) (L : List Sq) (k : Nat) (hk : 0 < k) : FM (bcL W H L k) (bst W H L k).1 ((bst W H L k).2 : Int) := by
  induction k with
  | zero => omega
  | succ k ih =>
    rw [bcL_succ]
    by_cases h0 : k = 0
    · subst h0
      have e : bst W H L (0 + 1) = (0, bcN W H L 0) := by unfold bst; rw [if_pos (Or.inl rfl)]
      rw [e]
      exact FM.one _
    · have ih' := ih (by omega)
      by_cases h1 : bcN W H L k < (bst W H L k).2
      · have e : bst W H L (k + 1) = (k, bcN W H L k) := by rw [bst, if_pos (Or.inr h1)]
        rw [e]
        have := ih'.less (u := (bcN W H L k : Int)) (by omega)
        rwa [bcL_len] at this
      · have e : bst W H L (k + 1) = bst W H L k := by rw [bst, if_neg (by rintro (h | h) <;> contradiction)]
        rw [e]
        exact ih'.more (by omega)
theorem bst_le (W H : Int) (L : List Sq) (k : Nat) : (bst W H L k).1 ≤ k := by
  induction k with
  | zero => simp [bst]
  | succ k ih =>
    rw [bst]
    split
    · exact Nat.le_succ k
    · omega
/-- What BestClue returns. -/
noncomputable def bcV (W H : Int) (L : List Sq) : Nat × Bool := if dc (GoodP W H L ∧ L ≠ []) then ((bst W H L L.length).1, true) else (0, false)
theorem bcV_yes {W H : Int} {L : List Sq} (h : GoodP W H L ∧ L ≠ []) : bcV W H L = ((bst W H L L.length).1, true) := by unfold bcV; rw [dc_true h]; rfl
theorem bcV_no {W H : Int} {L : List Sq} (h : ¬ (GoodP W H L ∧ L ≠ [])) : bcV W H L = (0, false) := by unfold bcV; rw [dc_false h]; rfl
set_option maxRecDepth 100000 in
set_option maxHeartbeats 8000000 in
theorem implBc_any (W H : Int) (A : Option Addr) (n c : Nat) (L : List Sq) (w : World) (hl : L.length = n) (hc : n ≤ c) (hn9 : n ≤ 1048576) (hL : SqsAt w w.heap.size A L) :
    Calls Tryz.prog 33 #[.agg #[.int .i64 W, .int .i64 H, .slice A n c]] w fun e w' => e = .returned (.tuple #[.int .i64 (bcV W H L).1, .bool (bcV W H L).2]) ∧ Below w.heap.size w w' := by
  have B0 : Below w.heap.size w (w.alloc (.cells #[.int .i64 W, .int .i64 H, .slice A n c] 31)) := (Below.refl _ _).alloc (Nat.le_refl _) _
  have K0 := Cv3.start w (.int .i64 W) (.int .i64 H) (.slice A n c) 31
  have C := implIsPuz_any W H A n c L _ hl (by omega) ((hL.below B0).mono B0.size)
  by_cases hP : GoodP W H L
  · have C0 := Lib.hid (callB_yes C hP)
    by_cases hn0 : n = 0
    · have hno : ¬ (GoodP W H L ∧ L ≠ []) := fun h => h.2 (List.length_eq_zero_iff.1 (by omega))
      rw [bcV_no hno]
      subst hn0
      clear C hP hL hl hno
      go_enter Tryz.func33, Tryz.ntmps33
      go_wp2_with fail
      (with_reducible refine C0.out.mono ?_)
      rintro e w1 ⟨rfl, hb1⟩
      obtain ⟨kl, k0, k1, k2⟩ := K0.next hb1
      go_wp2_with fail
      go_ret2
      exact ⟨rfl, B0.trans (hb1.mono B0.size)⟩
    · have hyes : GoodP W H L ∧ L ≠ [] := ⟨hP, fun h => hn0 (by rw [← hl, h]; rfl)⟩
      rw [bcV_yes hyes]
      have hn7 : n ≤ 6 := by have := hP.2.1; omega
      have hfm := bst_fm W H L n (by omega)
      have hbl := bst_le W H L n
      rw [hl]
      obtain ⟨x, hx⟩ : ∃ x, (bst W H L n).1 = x := ⟨_, rfl⟩
      obtain ⟨y, hy⟩ : ∃ y, (bst W H L n).2 = y := ⟨_, rfl⟩
      rw [hx] at hfm hbl ⊢
      rw [hy] at hfm
      have HFM := Lib.hid hfm
      obtain ⟨i0, hi, hz0, hz1, hz2⟩ := info_parts infoInt
      have q0 : ¬ (n : Int) = 0 := by omega
      have T : ∀ (k : Nat) (_ : k < n) (w' : World) (_ : Below w.heap.size w w'), Calls Tryz.prog 47 #[.agg #[.int .i64 W, .int .i64 H, .slice A n c], .int .i64 k, .int .i64 ((k : Int) + 1)] w' fun e w'' => e = .returned (.int .i64 (bcN W H L k)) ∧ Below w'.heap.size w' w'' := fun k hk w' hb => by
        have := countBy_any W H A n c L k (k + 1) w' hl hc (Nat.le_succ _) hk (by omega) ((hL.below hb).mono hb.size)
        rw [Nat.add_sub_cancel_left] at this
        exact this
      have HT := Lib.hid T
      clear T C hP hL hfm hyes hx hy hl
      go_enter Tryz.func33, Tryz.ntmps33
      go_wp2_with fail
      (with_reducible refine C0.out.mono ?_)
      rintro e w1 ⟨rfl, hb1⟩
      have K1 := K0.next hb1
      have B1 := B0.trans (hb1.mono B0.size)
      obtain ⟨kl, k0, k1, k2⟩ := id K1
      clear K0 B0 hb1 C0
      go_wp2_with (at_make; refine wpList_make_full _ rfl _ _ 49 rfl w1.heap.size 3 i0 (.int .i64 0) 1 Tryz.underlying49 hi hz0 hz1 .i64 .i64 n n n rfl rfl rfl rfl (by rw [hz2]; omega) (by unfold maxLen; omega) (Nat.le_refl _) ?_; intro w2 hown hgrow; have hb2 : Below w1.heap.size w1 w2 := (Below.refl _ w1).grown hgrow (Nat.le_refl _) (by simp))
      have B2 := B1.trans (hb2.mono B1.size)
      have K2 := K1.next hb2
      obtain ⟨g, hg⟩ : ∃ g, g = w1.heap.size := ⟨_, rfl⟩
      have hgw : w.heap.size < g := by rw [hg]; exact kl
      rw [← hg] at hown ⊢
      clear hg hgrow hb2 kl k0 k1 k2 K1 B1
      go_loopw [21] (fun i wr => ∃ k : Nat, k ≤ n ∧ i = .int .i64 k ∧ Below w.heap.size w wr ∧ Cv3 w.heap.size wr (.int .i64 W) (.int .i64 H) (.slice A n c) ∧ ∃ xs, wr.ownsRow (w.heap.size + 1) 3 1 (.slice (some ⟨g, 0, none⟩) n n) n xs ∧ xs.take k = ints (bcL W H L k)) (fun i _ => n - (intOf i).toNat)
      case atStart => exact ⟨0, Nat.zero_le _, rfl, B2, K2, _, own_base hown hgw, by simp [ints, bcL]⟩
      case round =>
        obtain ⟨k, hk, rfl, hbr, hK, xs, hown1, htake⟩ := hrel
        by_cases hlt : k < n
        · have HT1 := Lib.hid htake
          have C1 := Lib.hid (HT.out k hlt wr hbr)
          obtain ⟨kl, k0, k1, k2⟩ := id hK
          have HO := Lib.hid hown1
          clear htake hown hown1
          go_wp2_with fail
          (with_reducible refine C1.out.mono ?_)
          rintro e w3 ⟨rfl, hb3⟩
          have hbr3 := hbr.trans (hb3.mono hbr.size)
          have hK3 := hK.next hb3
          have hown3 := own_keep HO.out hb3
          have hgl := (own_lt hown3).2
          have hgb := (own_lt hown3).1
          obtain ⟨v0, e0⟩ := own_some hown3 (j := k) (by omega)
          have f0 := hown3.frozenAt k
          have hx := hown3.1
          obtain ⟨N, hN⟩ : ∃ N, bcN W H L k = N := ⟨_, rfl⟩
          rw [hN]
          have HN := Lib.hid hN
          clear hN kl k0 k1 k2 C1 hb3 HO
          go_wp2_with fail
          have R := (hown3.stored k (.int .i64 N)).1
          have hB3 := hbr3.setCell (p := ⟨g, k, none⟩) (show w.heap.size ≤ g by omega) (.int .i64 N)
          have hK4 := cv3_other hK3 (b' := g) (o := k) (by omega) (.int .i64 N)
          go_roundw
          case rel => exact ⟨k + 1, by omega, by go_num, hB3, hK4, _, R, by rw [take_set1 _ _ _ (by omega), HT1.out, bcL_succ, ints_app, HN.out]; rfl⟩
          case measure => simp [intOf]; omega
        · obtain rfl : k = n := by omega
          have hx := hown1.1
          rw [List.take_of_length_le (by omega)] at htake
          subst htake
          have CM := Lib.hid (minF_any wr hown1 HFM.out (by omega))
          have CI := Lib.hid (idxF_any wr hown1 HFM.out (by omega))
          clear hown hown1 hx
          go_wp2_with fail
          (with_reducible refine CM.out.mono ?_)
          rintro e w4 ⟨rfl, rfl⟩
          go_wp2_with fail
          (with_reducible refine CI.out.mono ?_)
          rintro e w4 ⟨rfl, rfl⟩
          go_wp2_with fail
          go_ret2
          exact ⟨rfl, hbr⟩
  · have C0 := Lib.hid (callB_no C hP)
    rw [bcV_no (fun h => hP h.1)]
    clear C hP hL hl
    go_enter Tryz.func33, Tryz.ntmps33
    go_wp2_with fail
    (with_reducible refine C0.out.mono ?_)
    rintro e w1 ⟨rfl, hb1⟩
    obtain ⟨kl, k0, k1, k2⟩ := K0.next hb1
    go_wp2_with fail
    go_ret2
    exact ⟨rfl, B0.trans (hb1.mono B0.size)⟩
end Go.Proofs.YtpbghalljfcaoaaGreat
namespace Go.Proofs.YtpbghalljfcaoaaGreat
open Go.RowKit Go.Shelf

theorem GoodP.part {W H : Int} {L : List Sq} (h : GoodP W H L) (k j : Nat) : GoodP W H ((L.drop k).take j) :=
  ⟨h.1, by have := h.2.1; rw [List.length_take, List.length_drop]; omega, fun s hs => h.2.2 s (List.mem_of_mem_drop (List.mem_of_mem_take hs))⟩
theorem bst_hit {W H : Int} {L : List Sq} {k : Nat} (h : k = 0 ∨ bcN W H L k < (bst W H L k).2) : bst W H L (k + 1) = (k, bcN W H L k) := by rw [bst, if_pos h]
theorem bst_miss {W H : Int} {L : List Sq} {k : Nat} (h : ¬ (k = 0 ∨ bcN W H L k < (bst W H L k).2)) : bst W H L (k + 1) = bst W H L k := by rw [bst, if_neg h]
set_option maxRecDepth 100000 in
set_option maxHeartbeats 8000000 in
theorem specBc_yes (W H : Nat) (A : Option Addr) (n c : Nat) (L : List Sq) (w : World) (hl : L.length = n) (hc : n ≤ c) (hL : SqsAt w w.heap.size A L) (hP : GoodP W H L) (hn0 : n ≠ 0) :
    Calls Tryz.prog 32 #[.agg #[.int .i64 W, .int .i64 H, .slice A n c]] w fun e w' => e = .returned (.tuple #[.int .i64 (bcV W H L).1, .bool (bcV W H L).2]) ∧ Below w.heap.size w w' := by
  have hok := hP.1
  have hokL := okP_okL hok
  have hask := hP.ask
  have hn6 : n ≤ 6 := by have := hP.2.1; omega
  have B0 : Below w.heap.size w (w.alloc (.cells #[.int .i64 W, .int .i64 H, .slice A n c] 31)) := (Below.refl _ _).alloc (Nat.le_refl _) _
  have K0 := Cv3.start w (.int .i64 W) (.int .i64 H) (.slice A n c) 31
  have C0 := Lib.hid (callB_yes (pzGood_any W H A n c L _ hl (by omega) ((hL.below B0).mono B0.size)) hP)
  have hyes : GoodP W H L ∧ L ≠ [] := ⟨hP, fun h => hn0 (by rw [← hl, h]; rfl)⟩
  rw [bcV_yes hyes, hl]
  have hbl := bst_le W H L n
  have z0 : ¬ (n : Int) = 0 := by omega
  obtain ⟨kl, k0, k1, k2⟩ := id K0
  go_enter Tryz.func32, Tryz.ntmps32
  go_wp2_with fail
  (with_reducible refine C0.out.mono ?_)
  rintro e w1 ⟨rfl, hb⟩
  clear kl k0 k1 k2 C0 hyes
  have K1 := K0.next hb
  have B1 := B0.trans (hb.mono B0.size)
  clear K0 B0 hb
  obtain ⟨kl, k0, k1, k2⟩ := id K1
  have C1 := Lib.hid (ofSize_any W H hok A n c w1)
  go_wp2_with fail
  (with_reducible refine C1.out.mono ?_)
  rintro e w2 ⟨A1, c1, Cs, rfl, hmC, hcl, hb⟩
  have K2 := K1.next hb
  have B2 := B1.trans (hb.mono B1.size)
  have hn1 := hb.size
  obtain ⟨n1, hn1e⟩ : ∃ n1, w1.heap.size = n1 := ⟨_, rfl⟩
  rw [hn1e] at hcl hn1
  have hfew : Cs.length ≤ 65536 := by have := congrArg List.length hmC; rw [List.length_map] at this; rw [this]; exact allF_few hokL
  have T : ∀ (k : Nat) (_ : k < n) (cp : Nat) (V : World) (_ : Below w.heap.size w V) (_ : n1 ≤ V.heap.size) (_ : CL n1 W H Cs (.slice A1 Cs.length c1) V), Calls Tryz.prog 36 #[.slice A1 Cs.length c1, .slice (Option.map (fun x => x.add (k * 3)) A) 1 cp] V fun e w' => ∃ A' c', e = .returned (.slice A' (bcN W H L k) c') ∧ Below V.heap.size V w' := fun k hk cp V hb hn hcl => by
    refine (pzAll_any W H n1 A1 c1 Cs _ 1 cp ((L.drop k).take 1) V hn hfew hcl (fun x hx => allF_good hokL _ (by rw [← hmC]; exact List.mem_map_of_mem hx)) (by rw [List.length_take, List.length_drop, hl]; omega) (by omega) ((((hL.drop k).take 1).below hb).mono hb.size) (hP.part k 1).ask).mono ?_
    rintro e w' ⟨A', c', rfl, -, hb'⟩
    exact ⟨A', c', by rw [kept_solV hmC (hP.part k 1)]; rfl, hb'⟩
  have HT := Lib.hid T
  obtain ⟨p, hp⟩ : ∃ p, Cs.length = p := ⟨_, rfl⟩
  rw [hp] at hcl hfew ⊢
  have HP := Lib.hid hp
  clear T hmC hokL hok hask hP hL hb kl k0 k1 k2 K1 B1 hp hl
  obtain ⟨kl, k0, k1, k2⟩ := id K2
  go_wp2_with fail
  clear kl k0 k1 k2
  go_loopw [4, 5, 23] (fun o l i wr => ∃ k : Nat, k ≤ n ∧ i = .int .i64 k ∧ o = .int .i64 (bst W H L k).1 ∧ l = .int .i64 (bst W H L k).2 ∧ Below w.heap.size w wr ∧ Cv3 w.heap.size wr (.int .i64 W) (.int .i64 H) (.slice A n c) ∧ n1 ≤ wr.heap.size ∧ CL n1 W H Cs (.slice A1 p c1) wr) (fun _ _ i _ => n - (intOf i).toNat)
  case atStart => exact ⟨0, Nat.zero_le _, rfl, rfl, rfl, B2, K2, hn1, hcl⟩
  case round =>
    obtain ⟨k, hk, rfl, rfl, rfl, hbr, hK, hnr, hclr⟩ := hrel
    by_cases hlt : k < n
    · have q0 : (k : Int) ≤ (n : Int) := by omega
      have q1 : (k : Int) + 1 ≤ (c : Int) := by omega
      have q2 : (k : Int) + 1 ≤ (n : Int) := by omega
      have C2 := fun cp => HT.out k hlt cp wr hbr hnr (by rw [HP.out]; exact hclr)
      rw [HP.out] at C2
      have hh := bst_hit (W := W) (H := H) (L := L) (k := k)
      have hmi := bst_miss (W := W) (H := H) (L := L) (k := k)
      have hbk := bst_le W H L k
      obtain ⟨N, hN⟩ : ∃ N, bcN W H L k = N := ⟨_, rfl⟩
      obtain ⟨S, hS⟩ : ∃ S, bst W H L k = S := ⟨_, rfl⟩
      obtain ⟨x, y⟩ := S
      rw [hN] at C2 hh hmi
      rw [hS] at hh hmi hbk ⊢
      dsimp only at hh hmi hbk
      have C3 := Lib.hid C2
      have HCL := Lib.hid hclr
      have HH := Lib.hid hh
      have HM := Lib.hid hmi
      obtain ⟨kl, k0, k1, k2⟩ := id hK
      clear hN hS hclr C2 hh hmi
      go_wp2_with fail
      (with_reducible refine (C3.out (c - k)).mono ?_)
      rintro e w3 ⟨A3, c3, rfl, hb3⟩
      have hbr3 := hbr.trans (hb3.mono hbr.size)
      have hK3 := hK.next hb3
      have hCL3 := HCL.out.keep hb3
      have hs3 := hb3.size
      clear kl k0 k1 k2 C3 hb3 HCL hK
      by_cases hz : k = 0
      · have z1 : ((k : Int) == 0) = true := by simp; omega
        have z2 : (k : Int) = 0 := by omega
        have hB := HH.out (Or.inl hz)
        go_wp2_with fail
        go_roundw
        case rel => exact ⟨k + 1, by omega, by go_num, by rw [hB] <;> simp [hz], by rw [hB], hbr3, hK3, by omega, hCL3⟩
        case measure => simp [intOf]; omega
      · have z1 : ((k : Int) == 0) = false := by simp; omega
        have z2 : ¬ (k : Int) = 0 := by omega
        by_cases hlt2 : N < y
        · have z3 : (N : Int) < (y : Int) := by omega
          have hB := HH.out (Or.inr hlt2)
          go_wp2_with fail
          go_roundw
          case rel => exact ⟨k + 1, by omega, by go_num, by rw [hB] <;> simp [hz], by rw [hB], hbr3, hK3, by omega, hCL3⟩
          case measure => simp [intOf]; omega
        · have z3 : ¬ (N : Int) < (y : Int) := by omega
          have hB := HM.out (by rintro (h | h) <;> contradiction)
          go_wp2_with fail
          go_roundw
          case rel => exact ⟨k + 1, by omega, by go_num, by rw [hB] <;> simp [hz], by rw [hB], hbr3, hK3, by omega, hCL3⟩
          case measure => simp [intOf]; omega
    · obtain rfl : k = n := by omega
      obtain ⟨x, hx⟩ : ∃ x, (bst W H L k).1 = x := ⟨_, rfl⟩
      rw [hx] at hbl ⊢
      have HX := Lib.hid hx
      clear hclr hx
      go_wp2_with fail
      go_ret2
      exact ⟨by rw [HX.out]; rfl, hbr⟩
theorem specBc_any (W H : Int) (A : Option Addr) (n c : Nat) (L : List Sq) (w : World) (hl : L.length = n) (hc : n ≤ c) (hn9 : n ≤ 1048576) (hL : SqsAt w w.heap.size A L) :
    Calls Tryz.prog 32 #[.agg #[.int .i64 W, .int .i64 H, .slice A n c]] w fun e w' => e = .returned (.tuple #[.int .i64 (bcV W H L).1, .bool (bcV W H L).2]) ∧ Below w.heap.size w w' := by
  have B0 : Below w.heap.size w (w.alloc (.cells #[.int .i64 W, .int .i64 H, .slice A n c] 31)) := (Below.refl _ _).alloc (Nat.le_refl _) _
  have K0 := Cv3.start w (.int .i64 W) (.int .i64 H) (.slice A n c) 31
  have C := pzGood_any W H A n c L _ hl (by omega) ((hL.below B0).mono B0.size)
  by_cases hP : GoodP W H L
  · by_cases hn0 : n = 0
    · have C0 := Lib.hid (callB_yes C hP)
      rw [bcV_no (fun h => h.2 (List.length_eq_zero_iff.1 (by omega)))]
      subst hn0
      clear C hP hL hl
      go_enter Tryz.func32, Tryz.ntmps32
      go_wp2_with fail
      (with_reducible refine C0.out.mono ?_)
      rintro e w1 ⟨rfl, hb1⟩
      obtain ⟨kl, k0, k1, k2⟩ := K0.next hb1
      go_wp2_with fail
      go_ret2
      exact ⟨rfl, B0.trans (hb1.mono B0.size)⟩
    · obtain ⟨a, rfl⟩ := Int.eq_ofNat_of_zero_le (show 0 ≤ W by have := hP.size; omega)
      obtain ⟨b, rfl⟩ := Int.eq_ofNat_of_zero_le (show 0 ≤ H by have := hP.size; omega)
      exact specBc_yes a b A n c L w hl hc hL hP hn0
  · have C0 := Lib.hid (callB_no C hP)
    rw [bcV_no (fun h => hP h.1)]
    clear C hP hL hl
    go_enter Tryz.func32, Tryz.ntmps32
    go_wp2_with fail
    (with_reducible refine C0.out.mono ?_)
    rintro e w1 ⟨rfl, hb1⟩
    obtain ⟨kl, k0, k1, k2⟩ := K0.next hb1
    go_wp2_with fail
    go_ret2
    exact ⟨rfl, B0.trans (hb1.mono B0.size)⟩
end Go.Proofs.YtpbghalljfcaoaaGreat
