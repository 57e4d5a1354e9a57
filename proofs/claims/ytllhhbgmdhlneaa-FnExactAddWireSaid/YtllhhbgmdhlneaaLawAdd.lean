/- The walk of FnExactAddWire. -/
import Derived.Test.YtllhhbgmdhlneaaGen
import Derived.Test.YtllhhbgmdhlneaaNetC
import Derived.Deep.DeepCutAuto
namespace Go.Proofs.Ytllhhbgmdhlneaa
open Go.RowKit

theorem addOk_len {N : Int} {L : List Wi} {s : Wi} (h : AddOk N L s) : (L ++ [s]).length ≤ 30 := h.2.2.1.2
theorem putS {B g : Nat} {Wc wp : World} {a b : Value} (hS : Below B Wc wp ∧ B ≤ wp.heap.size ∧ ∀ b o, b < B → wp.cell? ⟨b, o, none⟩ = Wc.cell? ⟨b, o, none⟩) (hg : B ≤ g) :
    Below B Wc ((wp.setCell ⟨g, 0, none⟩ a).setCell ⟨g, 1, none⟩ b) ∧ B ≤ ((wp.setCell ⟨g, 0, none⟩ a).setCell ⟨g, 1, none⟩ b).heap.size ∧ ∀ b' o, b' < B → ((wp.setCell ⟨g, 0, none⟩ a).setCell ⟨g, 1, none⟩ b).cell? ⟨b', o, none⟩ = Wc.cell? ⟨b', o, none⟩ := by
  refine ⟨(hS.1.setCell (p := ⟨g, 0, none⟩) hg _).setCell (p := ⟨g, 1, none⟩) hg _, Nat.le_trans hS.2.1 (Nat.le_trans (put_grown _ _ _).size (put_grown _ _ _).size), fun b' o h => ?_⟩
  rw [← hS.2.2 b' o h]
  have : g ≠ b' := by omega
  simp [go_sem, this]
/-- What a drawn region leaves that makes a box and puts a call's net into it. -/
structure RC (Wb wx : World) (g : Nat) (X : Int) (A0 : Option Addr) (R : List Wi) (c0 : Nat) : Prop where
  bel : Below Wb.heap.size Wb wx
  g0 : Wb.heap.size ≤ g
  box : Nx g wx X A0 R.length c0
  own : wx.ownsRow Wb.heap.size 47 2 (.slice A0 R.length c0) R.length (flatW R)
  ne : ∀ k, (Value.slice A0 R.length c0).ownBlock = some k → k ≠ g
theorem unD {B : Nat} {a b : World} (h : Below B a.drew b) : Below B a b := ((Below.refl _ _).drew).trans h
theorem szS {Wc wp : World} (hS : Below Wc.heap.size Wc wp ∧ Wc.heap.size ≤ wp.heap.size ∧ ∀ b o, b < Wc.heap.size → wp.cell? ⟨b, o, none⟩ = Wc.cell? ⟨b, o, none⟩) : Wc.heap.size ≤ wp.heap.size := hS.2.1
theorem nx {a b c : World} (h : Below a.heap.size a b) (h2 : Below b.heap.size b c) : Below a.heap.size a c := h.trans (h2.mono h.size)
theorem RC.late {Wb wE : World} {X : Int} {A0 : Option Addr} {R : List Wi} {c0 base : Nat} {t : TypeId} (hS : Below Wb.heap.size Wb wE) (hz : Wb.heap.size ≤ wE.heap.size)
    (o : wE.ownsRow base 47 2 (.slice A0 R.length c0) R.length (flatW R)) (hb : Wb.heap.size ≤ base) : RC Wb (wE.alloc (.cells #[.int .i64 X, .slice A0 R.length c0] t)) wE.heap.size X A0 R c0 := by
  have hA : Below wE.heap.size wE (wE.alloc (.cells #[.int .i64 X, .slice A0 R.length c0] t)) := (Below.refl _ _).alloc (Nat.le_refl _) _
  exact ⟨hS.trans (hA.mono hz), hz, Nx.start _ _ _ _ _ _, own_base (own_keep o hA) hb, fun k hk => by have := (o.lt k hk).2; omega⟩
theorem RC.early {Wb wa wE : World} {X : Int} {A0 : Option Addr} {R : List Wi} {c0 base : Nat} {t : TypeId} {v0 v1 : Value} (hz0 : Wb.heap.size ≤ wa.heap.size) (hS : Below Wb.heap.size Wb wE)
    (hz : Below (wa.alloc (.cells #[v0, v1] t)).heap.size (wa.alloc (.cells #[v0, v1] t)) wE)
    (o : wE.ownsRow base 47 2 (.slice A0 R.length c0) R.length (flatW R)) (hb : wa.heap.size + 1 ≤ base) :
    RC Wb ((wE.setCell ⟨wa.heap.size, 0, none⟩ (.int .i64 X)).setCell ⟨wa.heap.size, 1, none⟩ (.slice A0 R.length c0)) wa.heap.size X A0 R c0 := by
  have hs := hz.size
  simp at hs
  have e0 : wE.cell? ⟨wa.heap.size, 0, none⟩ = some v0 := (hz.cell (p := ⟨wa.heap.size, 0, none⟩) (by simp)).trans (by simp)
  have e1 : wE.cell? ⟨wa.heap.size, 1, none⟩ = some v1 := (hz.cell (p := ⟨wa.heap.size, 1, none⟩) (by simp)).trans (by simp)
  refine ⟨(hS.setCell (p := ⟨wa.heap.size, 0, none⟩) hz0 _).setCell (p := ⟨wa.heap.size, 1, none⟩) hz0 _, hz0, ⟨Nat.lt_of_lt_of_le (show wa.heap.size < wE.heap.size by omega) (Nat.le_trans (put_grown _ _ _).size (put_grown _ _ _).size), by simp [go_sem, e0, e1], by simp [go_sem, e0, e1]⟩, ?_, fun k hk => by have := (o.lt k hk).1; omega⟩
  exact own_base (ownsRow_setCell_below (ownsRow_setCell_below o (a := ⟨wa.heap.size, 0, none⟩) hb (.int .i64 X)) (a := ⟨wa.heap.size, 1, none⟩) hb (.slice A0 R.length c0)) (by omega)
theorem box0 {wa wE : World} {v0 v1 : Value} {t : TypeId} (hz : Below (wa.alloc (.cells #[v0, v1] t)).heap.size (wa.alloc (.cells #[v0, v1] t)) wE) : wE.cell? ⟨wa.heap.size, 0, none⟩ = some v0 :=
  (hz.cell (p := ⟨wa.heap.size, 0, none⟩) (by simp)).trans (by simp)
theorem box1 {wa wE : World} {v0 v1 : Value} {t : TypeId} (hz : Below (wa.alloc (.cells #[v0, v1] t)).heap.size (wa.alloc (.cells #[v0, v1] t)) wE) : wE.cell? ⟨wa.heap.size, 1, none⟩ = some v1 :=
  (hz.cell (p := ⟨wa.heap.size, 1, none⟩) (by simp)).trans (by simp)
theorem boxf {wa wE : World} {v0 v1 : Value} {t : TypeId} (hz : Below (wa.alloc (.cells #[v0, v1] t)).heap.size (wa.alloc (.cells #[v0, v1] t)) wE) (o : Nat) : wE.frozen? ⟨wa.heap.size, o, none⟩ = false :=
  (hz.frozen (p := ⟨wa.heap.size, o, none⟩) (by simp)).trans (by simp [go_sem])

/-- A boxed wire's two cells. -/
structure VW (b : Nat) (wr : World) (x y : Int) : Prop where
  lt : b < wr.heap.size
  c0 : wr.cell? ⟨b, 0, none⟩ = some (.int .i64 x)
  c1 : wr.cell? ⟨b, 1, none⟩ = some (.int .i64 y)
theorem VW.next {b : Nat} {w w' : World} {x y : Int} (h : VW b w x y) (hb : Below w.heap.size w w') : VW b w' x y :=
  ⟨Nat.lt_of_lt_of_le h.lt hb.size, (hb.cell (p := ⟨b, 0, none⟩) h.lt).trans h.c0, (hb.cell (p := ⟨b, 1, none⟩) h.lt).trans h.c1⟩
theorem VW.keep {b B' : Nat} {w w' : World} {x y : Int} (h : VW b w x y) (hb : Below B' w w') (hB : b < B') (hz : w.heap.size ≤ w'.heap.size) : VW b w' x y :=
  ⟨Nat.lt_of_lt_of_le h.lt hz, (hb.cell (p := ⟨b, 0, none⟩) hB).trans h.c0, (hb.cell (p := ⟨b, 1, none⟩) hB).trans h.c1⟩
theorem VW.start (w : World) (x y : Int) (t : TypeId) : VW w.heap.size (w.alloc (.cells #[.int .i64 x, .int .i64 y] t)) x y := ⟨by simp, by simp, by simp⟩

set_option maxRecDepth 100000 in
set_option maxHeartbeats 8000000 in
theorem lawAddWire (W : Int) (A : Option Addr) (n c : Nat) (L : List Wi) (x y : Int) (w : World) (hl : L.length = n) (hc : n ≤ c) (hn : n ≤ 1048576) (hL : WisAt w w.heap.size A L) (hwfW : wfI W) :
    Calls Try.prog 8 #[.agg #[.int .i64 W, .slice A n c], .agg #[.int .i64 x, .int .i64 y]] w fun e w' => e = .returned (.bool true) ∧ Below w.heap.size w w' := by
  subst hl
  have hRn : (addL W L ⟨x, y⟩).length ≤ 1048576 := by
    unfold addL
    split
    · next h => exact Nat.le_trans (addOk_len (dc_iff.1 h)) (by omega)
    · simp
  obtain ⟨R, hR⟩ : ∃ R, addL W L ⟨x, y⟩ = R := ⟨_, rfl⟩
  obtain ⟨X, hX⟩ : ∃ X, addX W L ⟨x, y⟩ = X := ⟨_, rfl⟩
  obtain ⟨ok, hK⟩ : ∃ ok, dc (AddOk W L ⟨x, y⟩) = ok := ⟨_, rfl⟩
  rw [hR] at hRn
  have HR := Lib.hid hR
  have HX := Lib.hid hX
  have HK := Lib.hid hK
  clear hR hX hK
  have h1 : (ok != ok) = false := by simp
  have Zs := NBox.start (W := W) (c := c) (t := 37) hL
  have Z0 := Zs.next ((Below.refl _ _).alloc (Nat.le_refl _) (.cells #[.int .i64 x, .int .i64 y] 39))
  have V0 : VW (w.heap.size + 1) ((w.alloc (.cells #[.int .i64 W, .slice A L.length c] 37)).alloc (.cells #[.int .i64 x, .int .i64 y] 39)) x y := by simpa using VW.start (w.alloc (.cells #[.int .i64 W, .slice A L.length c] 37)) x y 39
  clear Zs
  go_enter Try.func8, Try.ntmps8
  go_wp2_with fail
  refine (szNet_ok W A L.length c _ hn).mono ?_
  rintro e w1 ⟨rfl, hb1⟩
  have h' : ¬ (1048576 : Int) - L.length < 0 := by omega
  have Z1 := Z0.next hb1
  have V1 := V0.next hb1
  obtain ⟨hB1, hz1, z0, z1, hL1⟩ := id Z1
  clear Z0 hb1
  obtain ⟨hv1, y0, y1⟩ := id V1
  have hT := hL1.mono hB1.size
  go_upto_region 5 with fail
  go_cut [6, 7] (fun s1 s2 wx => ∃ (g c0 : Nat) (A0 : Option Addr), s1 = .pointer (some ⟨g, 0, none⟩) ∧ s2 = .bool ok ∧ RC w1 wx g X A0 R c0)
  case first =>
    go_region_held3 (fun w' => Below w1.heap.size w1 w' ∧ w1.heap.size ≤ w'.heap.size ∧ ∀ b o, b < w1.heap.size → w'.cell? ⟨b, o, none⟩ = w1.cell? ⟨b, o, none⟩)
      (first | assumption | exact keepS (by assumption) (by assumption) | exact putS (by assumption) (And.left (And.right (by assumption))) | exact putS (by assumption) (Nat.le_refl _) | exact ⟨(Below.refl _ _).drew, Nat.le_refl _, fun _ _ _ => rfl⟩ | exact keepS (by assumption) ((Below.refl _ _).alloc (Nat.le_refl _) _))
      (first
        | (go_at_call 32; refine (toNet_any W A L.length c L _ rfl hc hn (wisS hT (by assumption))).mono ?_; rintro e wN ⟨gN, rfl, hbN, oN⟩; have hSN := keepS (by assumption) hbN; have sN := hbN.size; (try simp at sN))
        | (go_at_call 33; refine (toWire_any x y _).mono ?_; rintro e wW ⟨rfl, hbW⟩; have hSW := keepS (by assumption) hbW; have sW := hbW.size; (try simp at sW); first | (have oN := own_keep oN hbW) | (have oN := own_keep (own_keep oN ((Below.refl _ _).alloc (Nat.le_refl _) _)) hbW) | skip)
        | (go_at_call 31; refine (specAdd_any W _ _ _ L x y _ rfl hn (by first | exact wis_of_own oN | exact wis_of_own (own_keep oN ((Below.refl _ _).alloc (Nat.le_refl _) _)))).mono ?_; rintro e wE hret; rw [HR.out, HX.out, HK.out] at hret; obtain ⟨A0, c0, rfl, oE, hbS⟩ := hret; have hSE := keepS (by assumption) hbS; (try have z0 := box0 (by (first | exact hbS | exact nx hbW hbS | exact nx (unD hbW) hbS | exact nx hbN hbS | exact nx (nx hbN hbW) hbS | exact nx (nx hbW hbN) hbS | exact nx (nx (unD hbN) hbW) hbS | exact nx (nx (unD hbW) hbN) hbS))); (try have z1 := box1 (by (first | exact hbS | exact nx hbW hbS | exact nx (unD hbW) hbS | exact nx hbN hbS | exact nx (nx hbN hbW) hbS | exact nx (nx hbW hbN) hbS | exact nx (nx (unD hbN) hbW) hbS | exact nx (nx (unD hbW) hbN) hbS))); (try have f0 := boxf (by (first | exact hbS | exact nx hbW hbS | exact nx (unD hbW) hbS | exact nx hbN hbS | exact nx (nx hbN hbW) hbS | exact nx (nx hbW hbN) hbS | exact nx (nx (unD hbN) hbW) hbS | exact nx (nx (unD hbW) hbN) hbS)) 0); (try have f1 := boxf (by (first | exact hbS | exact nx hbW hbS | exact nx (unD hbW) hbS | exact nx hbN hbS | exact nx (nx hbN hbW) hbS | exact nx (nx hbW hbN) hbS | exact nx (nx (unD hbN) hbW) hbS | exact nx (nx (unD hbW) hbN) hbS)) 1)))
    all_goals (go_wp2_with fail; go_meet)
    all_goals
      refine ⟨_, c0, A0, rfl, rfl, ?_⟩
      first
        | exact RC.late (belowS (Wc := w1) (by assumption)) (szS (Wc := w1) (by assumption)) oE (by first | omega | (simp; done) | (simp; omega))
        | exact RC.early (szS (Wc := w1) (by assumption)) (belowS (Wc := w1) (by assumption)) (by (first | exact hbS | exact nx hbW hbS | exact nx (unD hbW) hbS | exact nx hbN hbS | exact nx (nx hbN hbW) hbS | exact nx (nx hbW hbN) hbS | exact nx (nx (unD hbN) hbW) hbS | exact nx (nx (unD hbW) hbN) hbS)) oE (by first | omega | (simp; done) | (simp; omega))
        | exact RC.early (Nat.le_refl _) (belowS (Wc := w1) (by assumption)) (by (first | exact hbS | exact nx hbW hbS | exact nx (unD hbW) hbS | exact nx hbN hbS | exact nx (nx hbN hbW) hbS | exact nx (nx hbW hbN) hbS | exact nx (nx (unD hbN) hbW) hbS | exact nx (nx (unD hbW) hbN) hbS)) oE (by first | omega | (simp; done) | (simp; omega))
  obtain ⟨g0, c0, A0, rfl, rfl, hRC⟩ := hcut
  obtain ⟨w3', hw3⟩ : ∃ w3', w3' = wc := ⟨_, rfl⟩
  rw [← hw3] at hRC ⊢
  clear hw3
  have hb13 := hRC.bel
  have o0 := hRC.own
  have b0 := hRC.box
  have hs3 := b0.lt
  have hs3' := hRC.g0
  have hk0 := Lib.hid fun k (hk : (Value.slice A0 R.length c0).ownBlock = some k) => (o0.lt k hk).2
  have Z3' := Z1.next hb13
  have V3' := V1.next hb13
  have hv3 := V3'.lt
  clear z0 z1 hL1 hB1 hz1 Z1 y0 y1 hv1 hT hb13 hRC V1
  obtain ⟨hB3, hz3, z0, z1, hL3⟩ := id Z3'
  go_wp2_with fail
  refine (toNet_any W A L.length c L _ rfl hc hn (hL3.mono hB3.size)).mono ?_
  rintro e w4 ⟨g4, rfl, hb4, ho4⟩
  have hg4 := own_lt ho4
  have hs34 := hb4.size
  have o0 := own_keep o0 hb4
  have b0 := b0.next hb4
  have Z4 := Z3'.next hb4
  have V4 := V3'.next hb4
  clear z0 z1 hL3 hb4 hB3 Z3'
  go_wp2_with fail
  obtain ⟨W5, hW5⟩ : ∃ W5, W5 = w4.alloc (.cells #[.int .i64 W, .slice (some ⟨g4, 0, none⟩) L.length L.length] 43) := ⟨_, rfl⟩
  have bx : Nx w4.heap.size W5 W (some ⟨g4, 0, none⟩) L.length L.length := by rw [hW5]; exact Nx.start _ _ _ _ _ _
  have hs45 := bx.lt
  have hb5 : Below w4.heap.size w4 W5 := by rw [hW5]; exact (Below.refl _ _).alloc (Nat.le_refl _) _
  have ox := own_keep ho4 hb5
  have o0 := own_keep o0 hb5
  have b0 := b0.next hb5
  have Z5 := Z4.next hb5
  have V5 := V4.next hb5
  rw [← hW5]
  clear hW5 Z4 ho4 hb5
  obtain ⟨hv5, y0, y1⟩ := id V5
  obtain ⟨hx5, x0, x1⟩ := id bx
  go_upto_region 7 with fail
  go_cut [9, 10] (fun s1 s2 wx => ∃ (g c0 : Nat) (A0 : Option Addr), s1 = .pointer (some ⟨g, 0, none⟩) ∧ s2 = .bool ok ∧ RC W5 wx g X A0 R c0)
  case first =>
    go_region_held3 (fun w' => Below W5.heap.size W5 w' ∧ W5.heap.size ≤ w'.heap.size ∧ ∀ b o, b < W5.heap.size → w'.cell? ⟨b, o, none⟩ = W5.cell? ⟨b, o, none⟩)
      (first | assumption | exact keepS (by assumption) (by assumption) | exact putS (by assumption) (And.left (And.right (by assumption))) | exact putS (by assumption) (Nat.le_refl _) | exact ⟨(Below.refl _ _).drew, Nat.le_refl _, fun _ _ _ => rfl⟩ | exact keepS (by assumption) ((Below.refl _ _).alloc (Nat.le_refl _) _))
      (first
        | (go_at_call 33; refine (toWire_any x y _).mono ?_; rintro e wW ⟨rfl, hbW⟩; have hSW := keepS (by assumption) hbW; have sW := hbW.size; (try simp at sW))
        | (go_at_call 34; refine (implAdd_any W _ _ _ L x y _ rfl (by omega) (wis_of_own (own_keep ox (by first | exact And.left (by assumption) | exact And.left (keepS (by assumption) ((Below.refl _ _).alloc (Nat.le_refl _) _))))) hwfW).mono ?_; rintro e wE hret; rw [HR.out, HX.out, HK.out] at hret; obtain ⟨A0, c0, rfl, oE, hbS⟩ := hret; have hSE := keepS (by assumption) hbS; (try have z0 := box0 (by (first | exact hbS | exact nx hbW hbS | exact nx (unD hbW) hbS))); (try have z1 := box1 (by (first | exact hbS | exact nx hbW hbS | exact nx (unD hbW) hbS))); (try have f0 := boxf (by (first | exact hbS | exact nx hbW hbS | exact nx (unD hbW) hbS)) 0); (try have f1 := boxf (by (first | exact hbS | exact nx hbW hbS | exact nx (unD hbW) hbS)) 1)))
    all_goals (go_wp2_with fail; go_meet)
    all_goals
      refine ⟨_, c0, A0, rfl, rfl, ?_⟩
      first
        | exact RC.late (belowS (Wc := W5) (by assumption)) (szS (Wc := W5) (by assumption)) oE (by first | omega | (simp; done) | (simp; omega))
        | exact RC.early (szS (Wc := W5) (by assumption)) (belowS (Wc := W5) (by assumption)) (by (first | exact hbS | exact nx hbW hbS | exact nx (unD hbW) hbS)) oE (by first | omega | (simp; done) | (simp; omega))
        | exact RC.early (Nat.le_refl _) (belowS (Wc := W5) (by assumption)) (by (first | exact hbS | exact nx hbW hbS | exact nx (unD hbW) hbS)) oE (by first | omega | (simp; done) | (simp; omega))
  obtain ⟨g7, cg, Ag, rfl, rfl, hRC⟩ := hcut
  obtain ⟨w6', hw6⟩ : ∃ w6', w6' = wc := ⟨_, rfl⟩
  rw [← hw6] at hRC ⊢
  clear hw6
  have hb6 := hRC.bel
  have og := hRC.own
  have bg := hRC.box
  have hg7 := hRC.g0
  have hne7 := Lib.hid hRC.ne
  have hs6 := bg.lt
  have hkg := Lib.hid fun k (hk : (Value.slice Ag R.length cg).ownBlock = some k) => og.lt k hk
  have o0 := own_keep o0 hb6
  have ox := own_keep ox hb6
  have b0 := b0.next hb6
  have bx := bx.next hb6
  have Z6' := Z5.next hb6
  have V6' := V5.next hb6
  have hs56 := hb6.size
  clear Z5 hb6 y0 y1 hv5 hx5 x0 x1 hRC V5
  obtain ⟨_, p1, p2⟩ := id b0
  obtain ⟨_, q1, q2⟩ := id bg
  go_wp2_with fail
  clear p1 p2 q1 q2
  refine (eqNet_same X Ag A0 R.length cg c0 R _ rfl hRn (own_cap og) (own_cap o0) (wis_of_own og) (wis_of_own o0)).mono ?_
  rintro e w7 ⟨rfl, hb7⟩
  have o0 := own_keep o0 hb7
  have og := own_keep og hb7
  have ox := own_keep ox hb7
  have b0 := b0.next hb7
  have bx := bx.next hb7
  have bg := bg.next hb7
  have hs67 := hb7.size
  have Z7 := Z6'.next hb7
  have V7 := V6'.next hb7
  clear Z6' hb7
  obtain ⟨hB7, hz7, z0, z1, hL7⟩ := id Z7
  obtain ⟨hx7, x0, x1⟩ := id bx
  have hX7 := wis_of_own ox
  have hT7 := hL7.mono hB7.size
  go_wp2_with fail
  go_region_held3 (fun w' => Below w7.heap.size w7 w' ∧ w7.heap.size ≤ w'.heap.size ∧ ∀ b o, b < w7.heap.size → w'.cell? ⟨b, o, none⟩ = w7.cell? ⟨b, o, none⟩)
    (first | exact keepS (by assumption) (by assumption) | exact ⟨(Below.refl _ _).drew, Nat.le_refl _, fun _ _ _ => rfl⟩)
    (first
      | (go_at_call 32; refine (toNet_any W A L.length c L _ rfl hc hn (wisS hT7 (by assumption))).mono ?_; rintro e w8 ⟨g8, rfl, hb8, ho8⟩)
      | (go_at_call 35; refine (eqNet_same W _ _ _ _ _ L _ rfl hn (Nat.le_refl _) (Nat.le_refl _) (wisS hX7 (by assumption)) (wis_of_own (by assumption))).mono ?_; rintro e w9 ⟨rfl, hb9⟩))
  have hb79 := belowS (B := w7.heap.size) (wp := w9) (by assumption)
  have hs79 := hb79.size
  have o0 := own_keep o0 hb79
  have og := own_keep og hb79
  have ox := own_keep ox hb79
  have b0 := b0.next hb79
  have bg := bg.next hb79
  have bx := bx.next hb79
  have Z9 := Z7.next hb79
  have V9 := V7.next hb79
  clear hX7 hT7 hL7 z0 z1 x0 x1 hx7 hb79 Z7
  obtain ⟨hx9, x0, x1⟩ := id bx
  go_wp2_with fail
  refine (markNet_any W _ _ _ _ _ 1 _ hn (by decide) (by decide) ox).mono ?_
  rintro e w10 ⟨rfl, ho10, hgr⟩
  have hbX : Below w3'.heap.size w9 w10 := below_of_grown hgr (by omega) (fun k hk => by simp [Value.ownBlock] at hk; omega)
  have hs910 := hgr.size
  have o0 := own_far o0 hgr (fun k hk he => by have := hk0.out k hk; simp [Value.ownBlock] at he; omega)
  have og := own_far og hgr (fun k hk he => by have := hkg.out k hk; simp [Value.ownBlock] at he; omega)
  have b0 := b0.far hgr (fun he => by simp [Value.ownBlock] at he; omega)
  have bg := bg.far hgr (fun he => by simp [Value.ownBlock] at he; omega)
  have Z10 := Z9.keep hbX (by omega) hs910
  have V10 := V9.keep hbX (by omega) hs910
  have h2 : ¬ (1 : Int) + 2 * L.length < 0 := by omega
  clear Z9 hgr hbX ox bx ho10 x0 x1
  obtain ⟨_, p1, p2⟩ := id b0
  obtain ⟨_, q1, q2⟩ := id bg
  go_wp2_with fail
  refine (eqNet_same X Ag A0 R.length cg c0 R _ rfl hRn (own_cap og) (own_cap o0) (wis_of_own og) (wis_of_own o0)).mono ?_
  rintro e w11 ⟨rfl, hb11⟩
  have o0 := own_keep o0 hb11
  have og := own_keep og hb11
  have b0 := b0.next hb11
  have bg := bg.next hb11
  have Z11 := Z10.next hb11
  have V11 := V10.next hb11
  have hs11 := hb11.size
  clear Z10 hb11 p1 p2 q1 q2
  obtain ⟨_, q1, q2⟩ := id bg
  go_wp2_with fail
  refine (markNet_any X Ag R.length cg _ _ 1 _ hRn (by decide) (by decide) og).mono ?_
  rintro e w12 ⟨rfl, og12, hgr⟩
  have hbX : Below W5.heap.size w11 w12 := below_of_grown hgr (by omega) (fun k hk => (hkg.out k hk).1)
  have hs12 := hgr.size
  have o0 := own_far o0 hgr (fun k hk he => by have := hk0.out k hk; have := hkg.out k he; omega)
  have b0 := b0.far hgr (fun he => by have := hkg.out _ he; omega)
  have bg := bg.far hgr (fun he => hne7.out _ he rfl)
  have Z12 := Z11.keep hbX (by omega) hs12
  have V12 := V11.keep hbX (by omega) hs12
  clear Z11 hgr hbX og q1 q2
  have h3 : ¬ (1 : Int) + 2 * R.length < 0 := by omega
  obtain ⟨_, q1, q2⟩ := id bg
  go_wp2_with fail
  refine (heldNet_any X Ag R.length cg 1 _ hRn (by decide) (by decide) (wis_of_own og12)).mono ?_
  rintro e w13 ⟨rfl, hb13⟩
  have o0 := own_keep o0 hb13
  have og := own_keep og12 hb13
  have b0 := b0.next hb13
  have bg := bg.next hb13
  have Z13 := Z12.next hb13
  have V13 := V12.next hb13
  clear Z12 hb13 og12 q1 q2
  obtain ⟨hB13, hz13, z0, z1, hL13⟩ := id Z13
  obtain ⟨hv13, y0, y1⟩ := id V13
  have hT := hL13.mono hB13.size
  go_upto_region 24 with fail
  go_cut [14, 15] (fun s1 s2 wx => ∃ (g c0 : Nat) (A0 : Option Addr), s1 = .pointer (some ⟨g, 0, none⟩) ∧ s2 = .bool ok ∧ RC w13 wx g X A0 R c0)
  case first =>
    go_region_held3 (fun w' => Below w13.heap.size w13 w' ∧ w13.heap.size ≤ w'.heap.size ∧ ∀ b o, b < w13.heap.size → w'.cell? ⟨b, o, none⟩ = w13.cell? ⟨b, o, none⟩)
      (first | assumption | exact keepS (by assumption) (by assumption) | exact putS (by assumption) (And.left (And.right (by assumption))) | exact putS (by assumption) (Nat.le_refl _) | exact ⟨(Below.refl _ _).drew, Nat.le_refl _, fun _ _ _ => rfl⟩ | exact keepS (by assumption) ((Below.refl _ _).alloc (Nat.le_refl _) _))
      (first
        | (go_at_call 32; refine (toNet_any W A L.length c L _ rfl hc hn (wisS hT (by assumption))).mono ?_; rintro e wN ⟨gN, rfl, hbN, oN⟩; have hSN := keepS (by assumption) hbN; have sN := hbN.size; (try simp at sN))
        | (go_at_call 33; refine (toWire_any x y _).mono ?_; rintro e wW ⟨rfl, hbW⟩; have hSW := keepS (by assumption) hbW; have sW := hbW.size; (try simp at sW); first | (have oN := own_keep oN hbW) | (have oN := own_keep (own_keep oN ((Below.refl _ _).alloc (Nat.le_refl _) _)) hbW) | skip)
        | (go_at_call 34; refine (implAdd_any W _ _ _ L x y _ rfl (by omega) (by first | exact wis_of_own oN | exact wis_of_own (own_keep oN ((Below.refl _ _).alloc (Nat.le_refl _) _))) hwfW).mono ?_; rintro e wE hret; rw [HR.out, HX.out, HK.out] at hret; obtain ⟨A0, c0, rfl, oE, hbS⟩ := hret; have hSE := keepS (by assumption) hbS; (try have z0 := box0 (by (first | exact hbS | exact nx hbW hbS | exact nx (unD hbW) hbS | exact nx hbN hbS | exact nx (nx hbN hbW) hbS | exact nx (nx hbW hbN) hbS | exact nx (nx (unD hbN) hbW) hbS | exact nx (nx (unD hbW) hbN) hbS))); (try have z1 := box1 (by (first | exact hbS | exact nx hbW hbS | exact nx (unD hbW) hbS | exact nx hbN hbS | exact nx (nx hbN hbW) hbS | exact nx (nx hbW hbN) hbS | exact nx (nx (unD hbN) hbW) hbS | exact nx (nx (unD hbW) hbN) hbS))); (try have f0 := boxf (by (first | exact hbS | exact nx hbW hbS | exact nx (unD hbW) hbS | exact nx hbN hbS | exact nx (nx hbN hbW) hbS | exact nx (nx hbW hbN) hbS | exact nx (nx (unD hbN) hbW) hbS | exact nx (nx (unD hbW) hbN) hbS)) 0); (try have f1 := boxf (by (first | exact hbS | exact nx hbW hbS | exact nx (unD hbW) hbS | exact nx hbN hbS | exact nx (nx hbN hbW) hbS | exact nx (nx hbW hbN) hbS | exact nx (nx (unD hbN) hbW) hbS | exact nx (nx (unD hbW) hbN) hbS)) 1)))
    all_goals (go_wp2_with fail; go_meet)
    all_goals
      refine ⟨_, c0, A0, rfl, rfl, ?_⟩
      first
        | exact RC.late (belowS (Wc := w13) (by assumption)) (szS (Wc := w13) (by assumption)) oE (by first | omega | (simp; done) | (simp; omega))
        | exact RC.early (szS (Wc := w13) (by assumption)) (belowS (Wc := w13) (by assumption)) (by (first | exact hbS | exact nx hbW hbS | exact nx (unD hbW) hbS | exact nx hbN hbS | exact nx (nx hbN hbW) hbS | exact nx (nx hbW hbN) hbS | exact nx (nx (unD hbN) hbW) hbS | exact nx (nx (unD hbW) hbN) hbS)) oE (by first | omega | (simp; done) | (simp; omega))
        | exact RC.early (Nat.le_refl _) (belowS (Wc := w13) (by assumption)) (by (first | exact hbS | exact nx hbW hbS | exact nx (unD hbW) hbS | exact nx hbN hbS | exact nx (nx hbN hbW) hbS | exact nx (nx hbW hbN) hbS | exact nx (nx (unD hbN) hbW) hbS | exact nx (nx (unD hbW) hbN) hbS)) oE (by first | omega | (simp; done) | (simp; omega))
  obtain ⟨g14, ch, Ah, rfl, rfl, hRC⟩ := hcut
  obtain ⟨w16, hw16⟩ : ∃ w16, w16 = wc := ⟨_, rfl⟩
  rw [← hw16] at hRC ⊢
  clear hw16
  have hb16 := hRC.bel
  have o0 := own_keep o0 hb16
  have og := own_keep og hb16
  have oh := hRC.own
  have b0 := b0.next hb16
  have bg := bg.next hb16
  have Z16 := Z13.next hb16
  obtain ⟨_, p1, p2⟩ := id b0
  obtain ⟨_, q1, q2⟩ := id hRC.box
  clear hb16 Z13 hRC z0 z1 hL13 hB13 hz13 y0 y1 hv13 hT V13
  go_wp2_with fail
  clear p1 p2 q1 q2 b0
  refine (eqNet_same X Ah A0 R.length ch c0 R _ rfl hRn (own_cap oh) (own_cap o0) (wis_of_own oh) (wis_of_own o0)).mono ?_
  rintro e w17 ⟨rfl, hb17⟩
  have og := own_keep og hb17
  have bg := bg.next hb17
  have Z17 := Z16.next hb17
  clear Z16 hb17 o0 oh
  obtain ⟨_, q1, q2⟩ := id bg
  go_wp2_with fail
  refine (heldNet_any X Ag R.length cg 1 _ hRn (by decide) (by decide) (wis_of_own og)).mono ?_
  rintro e w18 ⟨rfl, hb18⟩
  have Z18 := Z17.next hb18
  go_wp2_with fail
  go_ret
  exact ⟨rfl, Z18.below⟩

theorem lawAddWire_over (W : Int) (A : Option Addr) (n c : Nat) (x y : Int) (w : World) (h : 1048576 < n) (hn : n ≤ 9223372036854775807) :
    Calls Try.prog 8 #[.agg #[.int .i64 W, .slice A n c], .agg #[.int .i64 x, .int .i64 y]] w fun e w' => e = .returned (.bool true) ∧ Below w.heap.size w w' := by
  have hb0 : Below w.heap.size w ((w.alloc (.cells #[.int .i64 W, .slice A n c] 37)).alloc (.cells #[.int .i64 x, .int .i64 y] 39)) := ((Below.refl _ _).alloc (Nat.le_refl _) _).alloc (by simp) _
  go_enter Try.func8, Try.ntmps8
  go_wp2_with fail
  refine (szNet_over W A n c _ h hn).mono ?_
  rintro e w1 ⟨rfl, hb1⟩
  go_wp2_with fail
  go_ret
  exact ⟨rfl, hb0.trans (hb1.mono hb0.size)⟩
end Go.Proofs.Ytllhhbgmdhlneaa
