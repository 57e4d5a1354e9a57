/- PzLb, PzLc, PzLd: texts in one. -/
import Derived.Test.YtpbghalljfcaoaaGreatPzT2
import Derived.Test.YtpbghalljfcaoaaGreatGen
set_option linter.all false
namespace Go.Proofs.YtpbghalljfcaoaaGreat
open Go.RowKit Go.Shelf

theorem SqsAt.drop {w : World} {B : Nat} {A : Option Addr} {L : List Sq} (h : SqsAt w B A L) (k : Nat) : SqsAt w B (Option.map (fun x => x.add (k * 3)) A) (L.drop k) := by
  intro i s hs
  rw [List.getElem?_drop] at hs
  obtain ⟨b, off, rfl, hb, c0, c1, c2⟩ := h (k + i) s hs
  have e : off + (k + i) * 3 = off + k * 3 + i * 3 := by omega
  rw [e] at c0 c1 c2
  exact ⟨b, off + k * 3, by simp [Addr.add], hb, c0, c1, c2⟩
theorem withClues_any (W H : Int) (A A2 : Option Addr) (n c n2 c2 : Nat) (w : World) :
    Calls Tryz.prog 64 #[.agg #[.int .i64 W, .int .i64 H, .slice A n c], .slice A2 n2 c2] w fun e w' => e = .returned (.agg #[.int .i64 W, .int .i64 H, .slice A2 n2 c2]) ∧ Below w.heap.size w w' := by
  go_enter Tryz.func64, Tryz.ntmps64
  go_wp2_with fail
  refine bodyPost_ret (v := .agg #[.int .i64 W, .int .i64 H, .slice A2 n2 c2]) (by simp [results, Tryz.results64, go_sem]) rfl ?_
  exact ⟨rfl, ((Below.refl _ _).alloc (Nat.le_refl _) _).alloc (by simp) _⟩
set_option maxRecDepth 100000 in
set_option maxHeartbeats 8000000 in
theorem countBy_any (W H : Int) (A : Option Addr) (n c : Nat) (L : List Sq) (a b : Nat) (w : World) (hl : L.length = n) (hc : n ≤ c) (hab : a ≤ b) (hbn : b ≤ n) (hn9 : n ≤ 9223372036854775807) (hL : SqsAt w w.heap.size A L) :
    Calls Tryz.prog 47 #[.agg #[.int .i64 W, .int .i64 H, .slice A n c], .int .i64 a, .int .i64 b] w fun e w' => e = .returned (.int .i64 (solV W H ((L.drop a).take (b - a))).length) ∧ Below w.heap.size w w' := by
  have bx := Cv3.start w (.int .i64 W) (.int .i64 H) (.slice A n c) 31
  have hb : Below w.heap.size w (w.alloc (.cells #[.int .i64 W, .int .i64 H, .slice A n c] 31)) := (Below.refl _ _).alloc (Nat.le_refl _) _
  obtain ⟨B0, hw0⟩ : ∃ B0, B0 = w.alloc (.cells #[.int .i64 W, .int .i64 H, .slice A n c] 31) := ⟨_, rfl⟩
  rw [← hw0] at bx hb
  obtain ⟨kl, k0, k1, k2⟩ := id bx
  have q0 : ¬ (a : Int) < 0 := by omega
  have q1 : (a : Int) ≤ (b : Int) := by omega
  have q2 : (b : Int) ≤ (c : Int) := by omega
  have q3 : (b : Int) ≤ (n : Int) := by omega
  have HB := Lib.hid hb
  by_cases hba : b = a
  · subst hba
    obtain ⟨R, hR⟩ : ∃ R, (L.drop b).take (b - b) = R := ⟨_, rfl⟩
    have hR0 : R = [] := by rw [← hR]; simp
    rw [hR]
    have T2 : ∀ w', (Below B0.heap.size B0 w' ∧ B0.heap.size ≤ w'.heap.size ∧ ∀ b o, b < B0.heap.size → w'.cell? ⟨b, o, none⟩ = B0.cell? ⟨b, o, none⟩) → Calls Tryz.prog 19 #[.agg #[.int .i64 W, .int .i64 H, .slice A 0 0]] w' fun e w'' => e = .returned (.tuple #[.int .i64 (solV W H R).length, .bool (dc (GoodP W H R))]) ∧ Below w'.heap.size w' w'' := fun w' _ =>
      implCountSol_any W H A 0 0 R w' (by rw [hR0]; rfl) (by omega) (fun i s hs => by rw [hR0] at hs; simp at hs)
    clear hR hR0 hL hl hb
    go_enter Tryz.func47, Tryz.ntmps47
    go_wp2_with fail
    rw [← hw0]
    clear hw0
    go_region_held3 (fun w' => (Below B0.heap.size B0 w' ∧ B0.heap.size ≤ w'.heap.size ∧ ∀ b o, b < B0.heap.size → w'.cell? ⟨b, o, none⟩ = B0.cell? ⟨b, o, none⟩))
      (first | assumption | exact keepS (by assumption) (by assumption) | exact ⟨(Below.refl _ _).drew, Nat.le_refl _, fun _ _ _ => rfl⟩)
      (first
        | (go_at_call 64; refine (withClues_any _ _ _ _ _ _ _ _ _).mono ?_; rintro e wt ⟨rfl, hbt⟩)
        | (go_at_call 19; (with_reducible refine (T2 _ (by assumption)).mono ?_); rintro e w2 ⟨rfl, hb2⟩))
    have hbz := belowS (B := B0.heap.size) (wp := w2) (by assumption)
    have hbf := HB.out.trans (hbz.mono HB.out.size)
    clear hbz
    go_wp2_with fail
    go_ret
    exact ⟨rfl, hbf⟩
  · obtain ⟨R, hR⟩ : ∃ R, (L.drop a).take (b - a) = R := ⟨_, rfl⟩
    have hRl : R.length = b - a := by rw [← hR, List.length_take, List.length_drop]; omega
    have hLR : SqsAt w w.heap.size (Option.map (fun x => x.add (a * 3)) A) R := by rw [← hR]; exact (hL.drop a).take (b - a)
    rw [hR]
    have T2 : ∀ w', (Below B0.heap.size B0 w' ∧ B0.heap.size ≤ w'.heap.size ∧ ∀ b o, b < B0.heap.size → w'.cell? ⟨b, o, none⟩ = B0.cell? ⟨b, o, none⟩) → Calls Tryz.prog 19 #[.agg #[.int .i64 W, .int .i64 H, .slice (Option.map (fun x => x.add (a * 3)) A) (b - a) (b - a)]] w' fun e w'' => e = .returned (.tuple #[.int .i64 (solV W H R).length, .bool (dc (GoodP W H R))]) ∧ Below w'.heap.size w' w'' := fun w' hS =>
      implCountSol_any W H _ (b - a) (b - a) R w' hRl (by omega) (sqsS ((hLR.below hb).mono hb.size) hS)
    clear hR hRl hLR hL hl hb
    go_enter Tryz.func47, Tryz.ntmps47
    go_wp2_with fail
    rw [← hw0]
    clear hw0
    go_region_held3 (fun w' => (Below B0.heap.size B0 w' ∧ B0.heap.size ≤ w'.heap.size ∧ ∀ b o, b < B0.heap.size → w'.cell? ⟨b, o, none⟩ = B0.cell? ⟨b, o, none⟩))
      (first | assumption | exact keepS (by assumption) (by assumption) | exact ⟨(Below.refl _ _).drew, Nat.le_refl _, fun _ _ _ => rfl⟩)
      (first
        | (go_at_call 64; refine (withClues_any _ _ _ _ _ _ _ _ _).mono ?_; rintro e wt ⟨rfl, hbt⟩)
        | (go_at_call 19; (with_reducible refine (T2 _ (by assumption)).mono ?_); rintro e w2 ⟨rfl, hb2⟩))
    have hbz := belowS (B := B0.heap.size) (wp := w2) (by assumption)
    have hbf := HB.out.trans (hbz.mono HB.out.size)
    clear hbz
    go_wp2_with fail
    go_ret
    exact ⟨rfl, hbf⟩
end Go.Proofs.YtpbghalljfcaoaaGreat
namespace Go.Proofs.YtpbghalljfcaoaaGreat
open Go.RowKit Go.Shelf

theorem cv3_other {b : Nat} {V : World} {x y z : Value} (h : Cv3 b V x y z) {b' o : Nat} (hne : b ≠ b') (v : Value) : Cv3 b (V.setCell ⟨b', o, none⟩ v) x y z :=
  ⟨by simpa using h.1, (World.cell?_setCell_other _ _ _ _ (fun e => hne (by cases e; rfl))).trans h.2, (World.cell?_setCell_other _ _ _ _ (fun e => hne (by cases e; rfl))).trans h.3, (World.cell?_setCell_other _ _ _ _ (fun e => hne (by cases e; rfl))).trans h.4⟩
noncomputable def lbL (W H : Int) (L : List Sq) (k : Nat) : List Int := (List.range k).map fun j => ((solV W H (L.take j)).length : Int)
theorem lbL_len (W H : Int) (L : List Sq) (k : Nat) : (lbL W H L k).length = k := by simp [lbL]
theorem lbL_succ (W H : Int) (L : List Sq) (k : Nat) : lbL W H L (k + 1) = lbL W H L k ++ [((solV W H (L.take k)).length : Int)] := by
  unfold lbL; rw [List.range_succ, List.map_append]; rfl
/-- What LeftByClues returns. -/
noncomputable def lbV (W H : Int) (L : List Sq) : List Int := if dc (GoodP W H L) then lbL W H L (L.length + 1) else []
theorem lbV_yes {W H : Int} {L : List Sq} (h : GoodP W H L) : lbV W H L = lbL W H L (L.length + 1) := by unfold lbV; rw [dc_true h]; rfl
theorem lbV_no {W H : Int} {L : List Sq} (h : ¬ GoodP W H L) : lbV W H L = [] := by unfold lbV; rw [dc_false h]; rfl
set_option maxRecDepth 100000 in
set_option maxHeartbeats 8000000 in
theorem implLb_any (W H : Int) (A : Option Addr) (n c : Nat) (L : List Sq) (w : World) (hl : L.length = n) (hc : n ≤ c) (hn9 : n ≤ 1048576) (hL : SqsAt w w.heap.size A L) :
    Calls Tryz.prog 28 #[.agg #[.int .i64 W, .int .i64 H, .slice A n c]] w (RetInts w (lbV W H L) (dc (GoodP W H L))) := by
  have B0 : Below w.heap.size w (w.alloc (.cells #[.int .i64 W, .int .i64 H, .slice A n c] 31)) := (Below.refl _ _).alloc (Nat.le_refl _) _
  have K0 := Cv3.start w (.int .i64 W) (.int .i64 H) (.slice A n c) 31
  have C := implIsPuz_any W H A n c L _ hl (by omega) ((hL.below B0).mono B0.size)
  by_cases hP : GoodP W H L
  · rw [lbV_yes hP, dc_true hP]
    have C0 := Lib.hid (callB_yes C hP)
    obtain ⟨i0, hi, hz0, hz1, hz2⟩ := info_parts infoInt
    obtain ⟨m, hm⟩ : ∃ m, n + 1 = m := ⟨_, rfl⟩
    have hmi : (n : Int) + 1 = (m : Int) := by omega
    have T := fun (k : Nat) (hk : k ≤ n) (w' : World) (hb : Below w.heap.size w w') => countBy_any W H A n c L 0 k w' hl hc (Nat.zero_le _) hk (by omega) ((hL.below hb).mono hb.size)
    simp only [Nat.sub_zero, List.drop_zero, show ((0 : Nat) : Int) = 0 from rfl] at T
    have HT := Lib.hid T
    rw [hl, hm]
    clear T C hP hL
    go_enter Tryz.func28, Tryz.ntmps28
    go_wp2_with fail
    (with_reducible refine C0.out.mono ?_)
    rintro e w1 ⟨rfl, hb1⟩
    have K1 := K0.next hb1
    have B1 := B0.trans (hb1.mono B0.size)
    obtain ⟨kl, k0, k1, k2⟩ := id K1
    clear K0 B0 hb1 C0
    go_wp2_with (at_make; refine wpList_make_full _ rfl _ _ 49 rfl w1.heap.size 3 i0 (.int .i64 0) 1 Tryz.underlying49 hi hz0 hz1 .i64 .i64 m m m rfl rfl rfl rfl (by rw [hz2]; omega) (by unfold maxLen; omega) (Nat.le_refl _) ?_; intro w2 hown hgrow; have hb2 : Below w1.heap.size w1 w2 := (Below.refl _ w1).grown hgrow (Nat.le_refl _) (by simp))
    have B2 := B1.trans (hb2.mono B1.size)
    have K2 := K1.next hb2
    obtain ⟨g, hg⟩ : ∃ g, g = w1.heap.size := ⟨_, rfl⟩
    have hgw : w.heap.size < g := by rw [hg]; exact kl
    rw [← hg] at hown ⊢
    clear hg hgrow hb2 kl k0 k1 k2 K1 B1
    go_loopw [16] (fun i wr => ∃ k : Nat, k ≤ m ∧ i = .int .i64 k ∧ Below w.heap.size w wr ∧ Cv3 w.heap.size wr (.int .i64 W) (.int .i64 H) (.slice A n c) ∧ ∃ xs, wr.ownsRow (w.heap.size + 1) 3 1 (.slice (some ⟨g, 0, none⟩) m m) m xs ∧ xs.take k = ints (lbL W H L k)) (fun i _ => m - (intOf i).toNat)
    case atStart => exact ⟨0, Nat.zero_le _, rfl, B2, K2, _, own_base hown hgw, by simp [ints, lbL]⟩
    case round =>
      obtain ⟨k, hk, rfl, hbr, hK, xs, hown1, htake⟩ := hrel
      by_cases hlt : k < m
      · have hkn : k ≤ n := by omega
        have HT1 := Lib.hid htake
        have C1 := Lib.hid (HT.out k hkn wr hbr)
        obtain ⟨kl, k0, k1, k2⟩ := id hK
        have HO := Lib.hid hown1
        clear htake hown hown1
        go_wp2_with fail
        (with_reducible refine C1.out.mono ?_)
        rintro e w3 ⟨rfl, hb3⟩
        have hbr3 := hbr.trans (hb3.mono hbr.size)
        have hK3 := hK.next hb3
        have hown3 := own_keep HO.out hb3
        have hgl := (own_lt hown3).2
        have hgb := (own_lt hown3).1
        obtain ⟨v0, e0⟩ := own_some hown3 (j := k) (by omega)
        have f0 := hown3.frozenAt k
        have hx := hown3.1
        obtain ⟨N, hN⟩ : ∃ N, (solV W H (L.take k)).length = N := ⟨_, rfl⟩
        rw [hN]
        have HN := Lib.hid hN
        clear hN kl k0 k1 k2 C1 hb3 HO
        go_wp2_with fail
        have R := (hown3.stored k (.int .i64 N)).1
        have hB3 := hbr3.setCell (p := ⟨g, k, none⟩) (show w.heap.size ≤ g by omega) (.int .i64 N)
        have hK4 := cv3_other hK3 (b' := g) (o := k) (by omega) (.int .i64 N)
        go_roundw
        case rel => exact ⟨k + 1, by omega, by go_num, hB3, hK4, _, R, by rw [take_set1 _ _ _ (by omega), HT1.out, lbL_succ, ints_app, HN.out]; rfl⟩
        case measure => simp [intOf]; omega
      · obtain rfl : k = m := by omega
        have hx := hown1.1
        rw [List.take_of_length_le (by omega)] at htake
        subst htake
        go_wp2_with fail
        go_ret2
        exact RetInts.mk (lbL_len _ _ _ _).symm (own_base hown1 (Nat.le_succ _)) hbr
  · have C0 := Lib.hid (callB_no C hP)
    rw [lbV_no hP, dc_false hP]
    clear C hP hL hl
    go_enter Tryz.func28, Tryz.ntmps28
    go_wp2_with fail
    (with_reducible refine C0.out.mono ?_)
    rintro e w1 ⟨rfl, hb1⟩
    go_wp2_with fail
    go_ret2
    exact RetInts.none_ (B0.trans (hb1.mono B0.size))
end Go.Proofs.YtpbghalljfcaoaaGreat
namespace Go.Proofs.YtpbghalljfcaoaaGreat
open Go.RowKit Go.Shelf

theorem CL.farI {n0 : Nat} {W H : Int} {Cs : List CV} {sl : Value} {V V' : World} (h : CL n0 W H Cs sl V) {base n : Nat} {o : Value} {xs : List Value} (ho : V.ownsRow base 3 1 o n xs) (hg : V.grownBy V' o.ownBlock) : CL n0 W H Cs sl V' :=
  ⟨own_far h.own hg (fun k hk => rows_ne h.own ho (by decide) k hk), fun x hx => own_far (h.sq x hx) hg (fun k hk => rows_ne (h.sq x hx) ho (by decide) k hk)⟩
theorem cv3_far {b : Nat} {V V' : World} {x y z : Value} {row : Option Nat} (h : Cv3 b V x y z) (hg : V.grownBy V' row) (hne : row ≠ some b) : Cv3 b V' x y z :=
  ⟨Nat.lt_of_lt_of_le h.lt hg.size, hg.cell h.c0 (fun e => hne e.symm), hg.cell h.c1 (fun e => hne e.symm), hg.cell h.c2 (fun e => hne e.symm)⟩
theorem GoodP.take {W H : Int} {L : List Sq} (h : GoodP W H L) (k : Nat) : GoodP W H (L.take k) :=
  ⟨h.1, by have := h.2.1; rw [List.length_take]; omega, fun s hs => h.2.2 s (List.mem_of_mem_take hs)⟩
theorem kept_solV {W H : Nat} {R : List Sq} {Cs : List CV} (hm : Cs.map (·.1) = allF W H) (hP : GoodP W H R) : (kept W H R Cs).length = (solV W H R).length := by
  have h : (kept W H R Cs).map (·.1) = solV W H R := by rw [kept_map, hm]; unfold solV; rw [dc_true hP]; rfl
  rw [← h, List.length_map]
set_option maxRecDepth 100000 in
set_option maxHeartbeats 8000000 in
theorem specLb_yes (W H : Nat) (A : Option Addr) (n c : Nat) (L : List Sq) (w : World) (hl : L.length = n) (hc : n ≤ c) (hL : SqsAt w w.heap.size A L) (hP : GoodP W H L) :
    Calls Tryz.prog 27 #[.agg #[.int .i64 W, .int .i64 H, .slice A n c]] w (RetInts w (lbV W H L) (dc (GoodP W H L))) := by
  have hok := hP.1
  have hokL := okP_okL hok
  have hask := hP.ask
  have hn6 : n ≤ 1048576 := by have := hP.2.1; omega
  have B0 : Below w.heap.size w (w.alloc (.cells #[.int .i64 W, .int .i64 H, .slice A n c] 31)) := (Below.refl _ _).alloc (Nat.le_refl _) _
  have K0 := Cv3.start w (.int .i64 W) (.int .i64 H) (.slice A n c) 31
  have C0 := Lib.hid (callB_yes (pzGood_any W H A n c L _ hl (by omega) ((hL.below B0).mono B0.size)) hP)
  rw [lbV_yes hP, dc_true hP, hl]
  obtain ⟨i0, hi, hz0, hz1, hz2⟩ := info_parts infoInt
  obtain ⟨m, hm⟩ : ∃ m, n + 1 = m := ⟨_, rfl⟩
  rw [hm]
  obtain ⟨kl, k0, k1, k2⟩ := id K0
  go_enter Tryz.func27, Tryz.ntmps27
  go_wp2_with fail
  (with_reducible refine C0.out.mono ?_)
  rintro e w1 ⟨rfl, hb⟩
  clear kl k0 k1 k2 C0
  have K1 := K0.next hb
  have B1 := B0.trans (hb.mono B0.size)
  clear K0 B0 hb
  obtain ⟨kl, k0, k1, k2⟩ := id K1
  have C1 := Lib.hid (ofSize_any W H hok A n c w1)
  go_wp2_with fail
  (with_reducible refine C1.out.mono ?_)
  rintro e w2 ⟨A1, c1, Cs, rfl, hmC, hcl, hb⟩
  have K2 := K1.next hb
  have B2 := B1.trans (hb.mono B1.size)
  have hn1 := hb.size
  obtain ⟨n1, hn1e⟩ : ∃ n1, w1.heap.size = n1 := ⟨_, rfl⟩
  rw [hn1e] at hcl hn1
  have hfew : Cs.length ≤ 65536 := by have := congrArg List.length hmC; rw [List.length_map] at this; rw [this]; exact allF_few hokL
  have T := fun (k : Nat) (hk : k ≤ n) (V : World) (hb : Below w.heap.size w V) (hn : n1 ≤ V.heap.size) (hcl : CL n1 W H Cs (.slice A1 Cs.length c1) V) => pzAll_any W H n1 A1 c1 Cs A k c (L.take k) V hn hfew hcl (fun x hx => allF_good hokL _ (by rw [← hmC]; exact List.mem_map_of_mem hx)) (by rw [List.length_take, hl]; omega) (by omega) (((hL.take k).below hb).mono hb.size) (hP.take k).ask
  have TK := fun (k : Nat) => kept_solV hmC (hP.take k)
  have HT := Lib.hid T
  have HTK := Lib.hid TK
  obtain ⟨p, hp⟩ : ∃ p, Cs.length = p := ⟨_, rfl⟩
  rw [hp] at hcl hfew ⊢
  have HP := Lib.hid hp
  have HHL := Lib.hid hl
  clear T TK hmC hokL hok hask hP hL hb kl k0 k1 k2 K1 B1 hp hl
  go_wp2_with fail
  go_loopw [4, 6] (fun o i wr => ∃ k : Nat, k ≤ m ∧ i = .int .i64 k ∧ Below w.heap.size w wr ∧ Cv3 w.heap.size wr (.int .i64 W) (.int .i64 H) (.slice A n c) ∧ n1 ≤ wr.heap.size ∧ CL n1 W H Cs (.slice A1 p c1) wr ∧ wr.ownsRow (w.heap.size + 1) 3 1 o k (ints (lbL W H L k))) (fun _ i _ => m - (intOf i).toNat)
  case atStart => exact ⟨0, Nat.zero_le _, rfl, B2, K2, hn1, hcl, World.ownsRow_nil _ _ _ _⟩
  case round =>
    obtain ⟨k, hk, rfl, hbr, hK, hnr, hclr, hown⟩ := hrel
    by_cases hlt : k ≤ n
    · have q0 : (k : Int) ≤ (n : Int) := by omega
      have q1 : (k : Int) ≤ (c : Int) := by omega
      have C2 := Lib.hid (HT.out k hlt wr hbr hnr (by rw [HP.out]; exact hclr))
      rw [HP.out] at C2
      rw [HTK.out k] at C2
      obtain ⟨N, hN⟩ : ∃ N, (solV W H (L.take k)).length = N := ⟨_, rfl⟩
      rw [hN] at C2
      have HN := Lib.hid hN
      have HCL := Lib.hid hclr
      have HO := Lib.hid hown
      obtain ⟨kl, k0, k1, k2⟩ := id hK
      clear hN hclr hown
      go_wp2_with fail
      (with_reducible refine C2.out.mono ?_)
      rintro e w3 ⟨A3, c3, rfl, -, hb3⟩
      have hown3 := own_keep HO.out hb3
      have hbr3 := hbr.trans (hb3.mono hbr.size)
      have hK3 := hK.next hb3
      have hCL3 := HCL.out.keep hb3
      have hs3 := hb3.size
      have hl3 := hK3.lt
      clear kl k0 k1 k2 C2 hb3 HO HCL hK
      go_wp2_with (at_builtin; refine wpList_append_own _ rfl _ _ 49 rfl (w.heap.size + 1) 3 i0 (.int .i64 0) 1 8 Tryz.underlying49 hi hz0 hz1 hz2 rfl (by decide) _ _ _ rfl (hown3.alloc _) ⟨w3.heap.size, 0, none⟩ 1 1 [.int .i64 N] rfl rfl ?c1 ?c2 ?c3 ?c4 ?c5 ?_)
      case c1 =>
        intro j u hj
        match j, hj with
        | 0, hj => simp at hj; subst hj; simp [Addr.add]
      case c2 => intro u hu; simp at hu; subst hu; rfl
      case c3 => unfold maxLen; omega
      case c4 => omega
      case c5 => simp <;> omega
      intro v' w4 hown4 hgrow _
      have hba := fun o => hbr3.alloc (Nat.le_of_lt hK3.lt) o
      have hB4 : Below w.heap.size w w4 := (hba _).grown hgrow (by simp; omega) (fun k hk => by have := (hown3.lt k hk).1; omega)
      have hK4 : Cv3 w.heap.size w4 (.int .i64 W) (.int .i64 H) (.slice A n c) := cv3_far (hK3.next ((Below.refl _ w3).alloc (Nat.le_refl _) _)) hgrow (fun e => by have := (hown3.lt _ e).1; omega)
      have hCL4 := (hCL3.keep ((Below.refl _ w3).alloc (Nat.le_refl _) _)).farI (hown3.alloc _) hgrow
      have hs4 : n1 ≤ w4.heap.size := by have := hgrow.size; simp at this; omega
      have HO4 : Hid (w4.ownsRow (w.heap.size + 1) 3 1 v' (k + 1) (ints (lbL W H L (k + 1)))) := by
        show w4.ownsRow _ _ _ _ _ _
        rw [lbL_succ, ints_app, HN.out]
        exact hown4
      clear hown3 hown4 hgrow hba hCL3
      go_wp2_with fail
      go_roundw
      case rel => exact ⟨k + 1, by omega, by go_num, hB4, hK4, hs4, by rw [← HP.out]; rw [← HP.out] at hCL4; exact hCL4, HO4.out⟩
      case measure => simp [intOf]; omega
    · obtain rfl : k = m := by omega
      have q0 : ¬ (k : Int) ≤ (n : Int) := by omega
      obtain ⟨kl, k0, k1, k2⟩ := id hK
      obtain ⟨A', c', rfl⟩ := own_val hown
      clear hclr
      go_wp2_with fail
      go_ret2
      exact RetInts.mk (lbL_len _ _ _ _).symm (own_base hown (Nat.le_succ _)) hbr
theorem specLb_any (W H : Int) (A : Option Addr) (n c : Nat) (L : List Sq) (w : World) (hl : L.length = n) (hc : n ≤ c) (hn9 : n ≤ 9223372036854775807) (hL : SqsAt w w.heap.size A L) :
    Calls Tryz.prog 27 #[.agg #[.int .i64 W, .int .i64 H, .slice A n c]] w (RetInts w (lbV W H L) (dc (GoodP W H L))) := by
  by_cases hP : GoodP W H L
  · obtain ⟨a, rfl⟩ := Int.eq_ofNat_of_zero_le (show 0 ≤ W by have := hP.size; omega)
    obtain ⟨b, rfl⟩ := Int.eq_ofNat_of_zero_le (show 0 ≤ H by have := hP.size; omega)
    exact specLb_yes a b A n c L w hl hc hL hP
  · have B0 : Below w.heap.size w (w.alloc (.cells #[.int .i64 W, .int .i64 H, .slice A n c] 31)) := (Below.refl _ _).alloc (Nat.le_refl _) _
    have C0 := Lib.hid (callB_no (pzGood_any W H A n c L _ hl hn9 ((hL.below B0).mono B0.size)) hP)
    rw [lbV_no hP, dc_false hP]
    clear hP hL hl
    go_enter Tryz.func27, Tryz.ntmps27
    go_wp2_with fail
    (with_reducible refine C0.out.mono ?_)
    rintro e w1 ⟨rfl, hb1⟩
    go_wp2_with fail
    go_ret2
    exact RetInts.none_ (B0.trans (hb1.mono B0.size))
end Go.Proofs.YtpbghalljfcaoaaGreat
