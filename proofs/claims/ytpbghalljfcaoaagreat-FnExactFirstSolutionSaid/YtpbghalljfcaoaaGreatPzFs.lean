/- The first solution of a puzzle: both sides; its law is in LawFst. -/
import Derived.Test.YtpbghalljfcaoaaGreatPzT2
import Derived.Test.YtpbghalljfcaoaaGreatGen
set_option linter.all false
namespace Go.Proofs.YtpbghalljfcaoaaGreat
open Go.RowKit Go.Shelf

theorem sol_36' {W H : Int} {L : List Sq} : ∀ M ∈ solV W H L, M.length ≤ 36 := by
  unfold solV
  by_cases hP : GoodP W H L
  · rw [dc_true hP]
    obtain ⟨a, rfl⟩ := Int.eq_ofNat_of_zero_le (show 0 ≤ W by have := hP.size; omega)
    obtain ⟨b, rfl⟩ := Int.eq_ofNat_of_zero_le (show 0 ≤ H by have := hP.size; omega)
    intro M hM
    have hM' : M ∈ allF a b := (List.mem_filter.1 hM).1
    have := (allF_good (okP_okL hP.1) M hM').2.2.1.2
    omega
  · rw [dc_false hP]; intro M hM; simp at hM
/-- The first solution, or none. -/
noncomputable def fsV (W H : Int) (L : List Sq) : Int × Int × List Sq × Bool := match solV W H L with | [] => (0, 0, [], false) | M :: _ => (W, H, M, true)
theorem fsV_len (W H : Int) (L : List Sq) : (fsV W H L).2.2.1.length ≤ 36 := by
  have h := sol_36' (W := W) (H := H) (L := L)
  unfold fsV
  split
  · simp
  · next M r e => exact h M (by rw [e]; simp)
theorem fst_none {w w2 : World} (hb : Below w.heap.size w w2) : RetCut w 0 0 [] false (.returned (.tuple #[.agg #[.int .i64 0, .int .i64 0, .slice none 0 0], .bool false])) (((w2.setCell ⟨w.heap.size + 1, 0, none⟩ (.int .i64 0)).setCell ⟨w.heap.size + 1, 1, none⟩ (.int .i64 0)).setCell ⟨w.heap.size + 1, 2, none⟩ (.slice none 0 0)) :=
  RetCut.none_ (((hb.setCell (p := ⟨w.heap.size + 1, 0, none⟩) (by simp) _).setCell (p := ⟨w.heap.size + 1, 1, none⟩) (by simp) _).setCell (p := ⟨w.heap.size + 1, 2, none⟩) (by simp) _)
theorem fst_some {w w2 : World} {W H : Int} {M : List Sq} {A : Option Addr} {c : Nat} (ho : w2.ownsRow (w.heap.size + 2) 87 3 (.slice A M.length c) M.length (flat M)) (hb : Below w.heap.size w w2) :
    RetCut w W H M true (.returned (.tuple #[.agg #[.int .i64 W, .int .i64 H, .slice A M.length c], .bool true])) (((w2.setCell ⟨w.heap.size + 1, 0, none⟩ (.int .i64 W)).setCell ⟨w.heap.size + 1, 1, none⟩ (.int .i64 H)).setCell ⟨w.heap.size + 1, 2, none⟩ (.slice A M.length c)) :=
  have hne : w.heap.size + 1 < w.heap.size + 2 := Nat.lt_succ_self _
  RetCut.mk rfl (own_base (ownsRow_setCell_below (ownsRow_setCell_below (ownsRow_setCell_below ho (a := ⟨w.heap.size + 1, 0, none⟩) hne (.int .i64 W)) (a := ⟨w.heap.size + 1, 1, none⟩) hne (.int .i64 H)) (a := ⟨w.heap.size + 1, 2, none⟩) hne (.slice A M.length c)) (Nat.le_add_right _ 2)) (((hb.setCell (p := ⟨w.heap.size + 1, 0, none⟩) (by simp) _).setCell (p := ⟨w.heap.size + 1, 1, none⟩) (by simp) _).setCell (p := ⟨w.heap.size + 1, 2, none⟩) (by simp) _)
set_option maxRecDepth 100000 in
set_option maxHeartbeats 8000000 in
theorem specFst_yes (W H : Nat) (A : Option Addr) (n c : Nat) (L : List Sq) (w : World) (hl : L.length = n) (hn9 : n ≤ 9223372036854775807) (hL : SqsAt w w.heap.size A L) (hP : GoodP W H L) :
    Calls Tryz.prog 20 #[.agg #[.int .i64 W, .int .i64 H, .slice A n c]] w (RetCut w (fsV W H L).1 (fsV W H L).2.1 (fsV W H L).2.2.1 (fsV W H L).2.2.2) := by
  have hok := hP.1
  have hokL := okP_okL hok
  have hask := hP.ask
  have hn6 : n ≤ 1048576 := by have := hP.2.1; omega
  have B0 : Below w.heap.size w ((w.alloc (.cells #[.int .i64 W, .int .i64 H, .slice A n c] 31)).alloc (.cells #[.int .i64 0, .int .i64 0, .slice none 0 0] 42)) := ((Below.refl _ _).alloc (Nat.le_refl _) _).alloc (by simp) _
  have K0 := (Cv3.start w (.int .i64 W) (.int .i64 H) (.slice A n c) 31).next ((Below.refl _ _).alloc (Nat.le_refl _) (.cells #[.int .i64 0, .int .i64 0, .slice none 0 0] 42))
  have R0 := Cv3.start (w.alloc (.cells #[.int .i64 W, .int .i64 H, .slice A n c] 31)) (.int .i64 0) (.int .i64 0) (.slice none 0 0) 42
  rw [World.size_alloc] at R0
  have fz : ∀ o, ((w.alloc (.cells #[.int .i64 W, .int .i64 H, .slice A n c] 31)).alloc (.cells #[.int .i64 0, .int .i64 0, .slice none 0 0] 42)).frozen? ⟨w.heap.size + 1, o, none⟩ = false := by
    intro o; exact World.frozen?_alloc_at _ _ _ _ (by simp)
  have hsz : ((w.alloc (.cells #[.int .i64 W, .int .i64 H, .slice A n c] 31)).alloc (.cells #[.int .i64 0, .int .i64 0, .slice none 0 0] 42)).heap.size = w.heap.size + 2 := by simp
  have C0 := Lib.hid (callB_yes (pzGood_any W H A n c L _ hl hn9 ((hL.below B0).mono B0.size)) hP)
  obtain ⟨kl, k0, k1, k2⟩ := id K0
  go_enter Tryz.func20, Tryz.ntmps20
  go_wp2_with fail
  (with_reducible refine C0.out.mono ?_)
  rintro e w1 ⟨rfl, hb⟩
  clear kl k0 k1 k2 C0
  have fz2 : ∀ o, w1.frozen? ⟨w.heap.size + 1, o, none⟩ = false := fun o => (hb.frozen (p := ⟨w.heap.size + 1, o, none⟩) R0.lt).trans (fz o)
  replace K0 := K0.next hb
  replace R0 := R0.next hb
  replace B0 := B0.trans (hb.mono B0.size)
  have hs1 : w.heap.size + 2 ≤ w1.heap.size := by have := hb.size; omega
  clear hb fz hsz
  obtain ⟨kl, k0, k1, k2⟩ := id K0
  have hT := (hL.below B0).mono B0.size
  have T1 : ∀ w', (Below w1.heap.size w1 w' ∧ w1.heap.size ≤ w'.heap.size ∧ ∀ b o, b < w1.heap.size → w'.cell? ⟨b, o, none⟩ = w1.cell? ⟨b, o, none⟩) → Calls Tryz.prog 37 #[.agg #[.int .i64 W, .int .i64 H, .slice A n c]] w' (RetCL w' W H (allF W H)) := fun w' _ => ofSize_any W H hok A n c w'
  have T2 : ∀ (n0 : Nat) (A1 : Option Addr) (c1 : Nat) (Cs : List CV) (w' : World), (Below w1.heap.size w1 w' ∧ w1.heap.size ≤ w'.heap.size ∧ ∀ b o, b < w1.heap.size → w'.cell? ⟨b, o, none⟩ = w1.cell? ⟨b, o, none⟩) → Cs.map (·.1) = allF W H → n0 ≤ w'.heap.size → CL n0 W H Cs (.slice A1 Cs.length c1) w' → Calls Tryz.prog 36 #[.slice A1 Cs.length c1, .slice A n c] w' fun e w'' => ∃ A' c', e = .returned (.slice A' (kept W H L Cs).length c') ∧ CL n0 W H (kept W H L Cs) (.slice A' (kept W H L Cs).length c') w'' ∧ Below w'.heap.size w' w'' := fun n0 A1 c1 Cs w' hS hm hn0 hcl =>
    pzAll_any W H n0 A1 c1 Cs A n c L w' hn0 (by have := congrArg List.length hm; rw [List.length_map] at this; rw [this]; exact allF_few hokL) hcl (fun x hx => allF_good hokL _ (by rw [← hm]; exact List.mem_map_of_mem hx)) hl hn6 (sqsS hT hS) hask
  have HB0 := Lib.hid B0
  have HP := Lib.hid hP
  have HKL := Lib.hid hokL
  have HR := Lib.hid R0
  have HFZ := Lib.hid fz2
  clear hL hT hl B0 K0 hok hask hP hokL R0 fz2
  go_wp2_with fail
  go_region_held3 (fun w' => Below w1.heap.size w1 w' ∧ w1.heap.size ≤ w'.heap.size ∧ ∀ b o, b < w1.heap.size → w'.cell? ⟨b, o, none⟩ = w1.cell? ⟨b, o, none⟩)
    (first | assumption | exact keepS (by assumption) (by assumption) | exact ⟨(Below.refl _ _).drew, Nat.le_refl _, fun _ _ _ => rfl⟩)
    (first
      | (go_at_call 37; (with_reducible refine (T1 _ (by assumption)).mono ?_); rintro e wt ⟨A1, c1, Cs, rfl, hm, hcl, hbt⟩)
      | (go_at_call 36; (with_reducible refine (T2 _ _ _ _ _ (by assumption) hm (by first | exact hbt.size | (have := hbt.size; simpa using this)) hcl).mono ?_); rintro e w2 ⟨A2, c2, rfl, hcl2, hb2⟩))
  have hb := belowS (B := w1.heap.size) (wp := w2) (by assumption)
  have hbase : w.heap.size + 2 ≤ w1.drew.heap.size := by simpa using hs1
  have hmk : (kept W H L Cs).map (·.1) = solV W H L := by rw [kept_map, hm]; unfold solV; rw [dc_true HP.out]; rfl
  obtain ⟨Ks, hKs⟩ : ∃ Ks, kept W H L Cs = Ks := ⟨_, rfl⟩
  rw [hKs] at hmk hcl2 ⊢
  have hcl3 : CL (w.heap.size + 2) W H Ks (.slice A2 Ks.length c2) w2 := ⟨own_base hcl2.own hbase, fun x hx => own_base (hcl2.sq x hx) hbase⟩
  have hbf := HB0.out.trans (hb.mono HB0.out.size)
  have R1 := HR.out.next hb
  have fz1 : ∀ o, w2.frozen? ⟨w.heap.size + 1, o, none⟩ = false := fun o => (hb.frozen (p := ⟨w.heap.size + 1, o, none⟩) HR.out.lt).trans (HFZ.out o)
  clear hKs hcl hcl2 hm T1 T2 hbt hb2 kl k0 k1 k2 hb
  have f0 := fz1 0
  have f1 := fz1 1
  have f2 := fz1 2
  obtain ⟨rl, r0, r1, r2⟩ := R1
  cases Ks with
  | nil =>
    have hv : fsV W H L = (0, 0, [], false) := by unfold fsV; rw [← hmk]; rfl
    have HV := Lib.hid hv
    clear hmk hcl3 hv fz1
    go_wp2_with fail
    refine bodyPost_ret (v := .tuple #[.agg #[.int .i64 0, .int .i64 0, .slice none 0 0], .bool false]) (by simp [results, Tryz.results20, go_sem, r0, r1, r2]) rfl ?_
    rw [HV.out]
    exact fst_none hbf
  | cons x r =>
    have hv : fsV W H L = ((W : Int), (H : Int), x.1, true) := by unfold fsV; rw [← hmk]; rfl
    have HV := Lib.hid hv
    obtain ⟨i0, hi, hz0, hz1, hzb⟩ := info_parts infoCut
    obtain ⟨g, rfl⟩ := own_form hcl3.own (by simp)
    obtain ⟨x0, x1, x2⟩ := hcl3.at (k := 0) (x := x) rfl
    simp only [Nat.zero_mul, Nat.zero_add] at x0 x1 x2
    have hxo := Lib.hid (hcl3.sq x (by simp))
    obtain ⟨m, hm⟩ : ∃ m, (x :: r).length = m := ⟨_, rfl⟩
    have hm0 : 0 < m := by rw [← hm]; simp
    rw [hm]
    have q0 : ¬ (m : Int) = 0 := by omega
    have q1 : (0 : Int) < (m : Int) := by omega
    clear hmk hcl3 hv hm fz1
    go_wp2_with fail
    refine bodyPost_ret (v := .tuple #[.agg #[.int .i64 W, .int .i64 H, .slice x.2.1 x.1.length x.2.2], .bool true]) (by simp [results, Tryz.results20, go_sem, r0, r1, r2]) rfl ?_
    rw [HV.out]
    exact fst_some hxo.out hbf
set_option maxRecDepth 100000 in
set_option maxHeartbeats 8000000 in
theorem specFst_any (W H : Int) (A : Option Addr) (n c : Nat) (L : List Sq) (w : World) (hl : L.length = n) (hn9 : n ≤ 9223372036854775807) (hL : SqsAt w w.heap.size A L) :
    Calls Tryz.prog 20 #[.agg #[.int .i64 W, .int .i64 H, .slice A n c]] w (RetCut w (fsV W H L).1 (fsV W H L).2.1 (fsV W H L).2.2.1 (fsV W H L).2.2.2) := by
  by_cases hP : GoodP W H L
  · obtain ⟨a, rfl⟩ := Int.eq_ofNat_of_zero_le (show 0 ≤ W by have := hP.size; omega)
    obtain ⟨b, rfl⟩ := Int.eq_ofNat_of_zero_le (show 0 ≤ H by have := hP.size; omega)
    exact specFst_yes a b A n c L w hl hn9 hL hP
  · have hv : fsV W H L = (0, 0, [], false) := by unfold fsV solV; rw [dc_false hP]; rfl
    have HV := Lib.hid hv
    have B0 : Below w.heap.size w ((w.alloc (.cells #[.int .i64 W, .int .i64 H, .slice A n c] 31)).alloc (.cells #[.int .i64 0, .int .i64 0, .slice none 0 0] 42)) := ((Below.refl _ _).alloc (Nat.le_refl _) _).alloc (by simp) _
    have K0 := (Cv3.start w (.int .i64 W) (.int .i64 H) (.slice A n c) 31).next ((Below.refl _ _).alloc (Nat.le_refl _) (.cells #[.int .i64 0, .int .i64 0, .slice none 0 0] 42))
    have R0 := Cv3.start (w.alloc (.cells #[.int .i64 W, .int .i64 H, .slice A n c] 31)) (.int .i64 0) (.int .i64 0) (.slice none 0 0) 42
    rw [World.size_alloc] at R0
    have fz : ∀ o, ((w.alloc (.cells #[.int .i64 W, .int .i64 H, .slice A n c] 31)).alloc (.cells #[.int .i64 0, .int .i64 0, .slice none 0 0] 42)).frozen? ⟨w.heap.size + 1, o, none⟩ = false := by
      intro o; exact World.frozen?_alloc_at _ _ _ _ (by simp)
    have hsz : ((w.alloc (.cells #[.int .i64 W, .int .i64 H, .slice A n c] 31)).alloc (.cells #[.int .i64 0, .int .i64 0, .slice none 0 0] 42)).heap.size = w.heap.size + 2 := by simp
    have C0 := Lib.hid (callB_no (pzGood_any W H A n c L _ hl hn9 ((hL.below B0).mono B0.size)) hP)
    clear hL hl hP hv
    go_enter Tryz.func20, Tryz.ntmps20
    go_wp2_with fail
    (with_reducible refine C0.out.mono ?_)
    rintro e w1 ⟨rfl, hb⟩
    have f0 := (hb.frozen (p := ⟨w.heap.size + 1, 0, none⟩) R0.lt).trans (fz 0)
    have f1 := (hb.frozen (p := ⟨w.heap.size + 1, 1, none⟩) R0.lt).trans (fz 1)
    have f2 := (hb.frozen (p := ⟨w.heap.size + 1, 2, none⟩) R0.lt).trans (fz 2)
    obtain ⟨rl, r0, r1, r2⟩ := R0.next hb
    have hbf := B0.trans (hb.mono B0.size)
    clear hb fz R0 B0 C0 K0 hsz
    go_wp2_with fail
    refine bodyPost_ret (v := .tuple #[.agg #[.int .i64 0, .int .i64 0, .slice none 0 0], .bool false]) (by simp [results, Tryz.results20, go_sem, r0, r1, r2]) rfl ?_
    rw [HV.out]
    exact fst_none hbf
set_option maxRecDepth 100000 in
set_option maxHeartbeats 8000000 in
theorem implFst_any (W H : Int) (A : Option Addr) (n c : Nat) (L : List Sq) (w : World) (hl : L.length = n) (hn9 : n ≤ 9223372036854775807) (hL : SqsAt w w.heap.size A L) :
    Calls Tryz.prog 21 #[.agg #[.int .i64 W, .int .i64 H, .slice A n c]] w (RetCut w (fsV W H L).1 (fsV W H L).2.1 (fsV W H L).2.2.1 (fsV W H L).2.2.2) := by
  have B0 : Below w.heap.size w ((w.alloc (.cells #[.int .i64 W, .int .i64 H, .slice A n c] 31)).alloc (.cells #[.int .i64 0, .int .i64 0, .slice none 0 0] 42)) := ((Below.refl _ _).alloc (Nat.le_refl _) _).alloc (by simp) _
  have K0 := (Cv3.start w (.int .i64 W) (.int .i64 H) (.slice A n c) 31).next ((Below.refl _ _).alloc (Nat.le_refl _) (.cells #[.int .i64 0, .int .i64 0, .slice none 0 0] 42))
  have R0 := Cv3.start (w.alloc (.cells #[.int .i64 W, .int .i64 H, .slice A n c] 31)) (.int .i64 0) (.int .i64 0) (.slice none 0 0) 42
  rw [World.size_alloc] at R0
  have fz : ∀ o, ((w.alloc (.cells #[.int .i64 W, .int .i64 H, .slice A n c] 31)).alloc (.cells #[.int .i64 0, .int .i64 0, .slice none 0 0] 42)).frozen? ⟨w.heap.size + 1, o, none⟩ = false := by
    intro o; exact World.frozen?_alloc_at _ _ _ _ (by simp)
  have hsz : ((w.alloc (.cells #[.int .i64 W, .int .i64 H, .slice A n c] 31)).alloc (.cells #[.int .i64 0, .int .i64 0, .slice none 0 0] 42)).heap.size = w.heap.size + 2 := by simp
  have C0 := Lib.hid (implSol_any W H A n c L _ hl hn9 ((hL.below B0).mono B0.size))
  clear hL hl
  obtain ⟨kl, k0, k1, k2⟩ := id K0
  go_enter Tryz.func21, Tryz.ntmps21
  go_wp2_with fail
  (with_reducible refine C0.out.mono ?_)
  rintro e w1 ⟨A', c', Ks, rfl, hmk, hcl2, -, hb⟩
  rw [hsz] at hcl2
  have hcl3 := hcl2
  have hbf := B0.trans (hb.mono B0.size)
  have R1 := R0.next hb
  have fz1 : ∀ o, w1.frozen? ⟨w.heap.size + 1, o, none⟩ = false := fun o => (hb.frozen (p := ⟨w.heap.size + 1, o, none⟩) R0.lt).trans (fz o)
  obtain ⟨ok, hok⟩ : ∃ ok, dc (GoodP W H L) = ok := ⟨_, rfl⟩
  rw [hok]
  clear hcl2 hb B0 C0 hok K0 kl k0 k1 k2 R0 fz hsz
  have f0 := fz1 0
  have f1 := fz1 1
  have f2 := fz1 2
  obtain ⟨rl, r0, r1, r2⟩ := R1
  cases Ks with
  | nil =>
    have hv : fsV W H L = (0, 0, [], false) := by unfold fsV; rw [← hmk]; rfl
    have HV := Lib.hid hv
    clear hmk hcl3 hv fz1
    go_wp2_with fail
    refine bodyPost_ret (v := .tuple #[.agg #[.int .i64 0, .int .i64 0, .slice none 0 0], .bool false]) (by simp [results, Tryz.results21, go_sem, r0, r1, r2]) rfl ?_
    rw [HV.out]
    exact fst_none hbf
  | cons x r =>
    have hv : fsV W H L = ((W : Int), (H : Int), x.1, true) := by unfold fsV; rw [← hmk]; rfl
    have HV := Lib.hid hv
    obtain ⟨i0, hi, hz0, hz1, hzb⟩ := info_parts infoCut
    obtain ⟨g, rfl⟩ := own_form hcl3.own (by simp)
    obtain ⟨x0, x1, x2⟩ := hcl3.at (k := 0) (x := x) rfl
    simp only [Nat.zero_mul, Nat.zero_add] at x0 x1 x2
    have hxo := Lib.hid (hcl3.sq x (by simp))
    obtain ⟨m, hm⟩ : ∃ m, (x :: r).length = m := ⟨_, rfl⟩
    have hm0 : 0 < m := by rw [← hm]; simp
    rw [hm]
    have q0 : ¬ (m : Int) = 0 := by omega
    have q1 : (0 : Int) < (m : Int) := by omega
    clear hmk hcl3 hv hm fz1
    go_wp2_with fail
    refine bodyPost_ret (v := .tuple #[.agg #[.int .i64 W, .int .i64 H, .slice x.2.1 x.1.length x.2.2], .bool true]) (by simp [results, Tryz.results21, go_sem, r0, r1, r2]) rfl ?_
    rw [HV.out]
    exact fst_some hxo.out hbf
end Go.Proofs.YtpbghalljfcaoaaGreat
