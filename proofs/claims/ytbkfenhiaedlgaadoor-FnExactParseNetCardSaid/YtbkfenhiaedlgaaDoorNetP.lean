/- The program's spreadPotentials. -/
import Derived.Test.YtbkfenhiaedlgaaDoorNetW
import Derived.Test.YtbkfenhiaedlgaaDoorOpen
set_option linter.all false
namespace Go.Proofs.YtbkfenhiaedlgaaDoor
open Go.RowKit Go.Maps

theorem lawI : Keyed Tryd.prog 3 := int_keyed Tryd.underlying3
theorem zeroI (w : World) : (zeroValue 3).run Tryd.prog w = .ok (.int .i64 0) w := by kernel_rfl
/-- A map that reads as what is told of the nodes. -/
def MapP (D : DataW Unit) (P : List (Option Int)) : Prop :=
  (∀ k, k < P.length → Maps.has D (.int .i64 (k : Int)) = (P.getD k none).isSome) ∧ (∀ (k : Nat) x, P.getD k none = some x → D.atKey (.int .i64 (k : Int)) (.lit (.int .i64 0)) = .lit (.int .i64 x)) ∧ Maps.size D = cntS P
theorem key_ne {j k : Nat} (h : j ≠ k) : (Lit.int .i64 (j : Int)) ≠ Lit.int .i64 (k : Int) := by
  intro e
  injection e with _ e
  omega
theorem MapP.put {D : DataW Unit} {P : List (Option Int)} (h : MapP D P) (hD : Tidy D) {k : Nat} (hk : k < P.length) (hn : P.getD k none = none) (x : Int) : MapP (D.put (.int .i64 (k : Int)) (.lit (.int .i64 x))) (P.set k (some x)) := by
  obtain ⟨h1, h2, h3⟩ := h
  refine ⟨fun j hj => ?_, fun j y hy => ?_, ?_⟩
  · rw [getD_set]
    by_cases e : k = j
    · subst e
      rw [has_put_same hD.isMap (show WideAt.IsKeyLit (.int .i64 (k : Int)) from trivial), if_pos ⟨rfl, hk⟩]
    · rw [has_put_other (key_ne fun e' => e e'.symm), if_neg (fun h => e h.1)]
      exact h1 j (by simpa using hj)
  · by_cases e : k = j
    · subst e
      rw [atKey_put_same hD.isMap (show WideAt.IsKeyLit (.int .i64 (k : Int)) from trivial)]
      rw [List.getD_eq_getElem?_getD, List.getElem?_set_self hk] at hy
      simp at hy
      rw [hy]
    · rw [atKey_put_other (key_ne fun e' => e e'.symm)]
      rw [List.getD_eq_getElem?_getD, List.getElem?_set_ne e, ← List.getD_eq_getElem?_getD] at hy
      exact h2 j y hy
  · rw [size_put hD, h1 k hk, hn, cnt_set hk hn, h3]
    rfl
theorem MapP.start {N : Nat} (h : 1 ≤ N) : MapP ((DataW.map []).put (.int .i64 0) (.lit (.int .i64 0))) (pot0 N) := by
  have e : pot0 N = (List.replicate N none).set 0 (some 0) := by
    obtain ⟨k, rfl⟩ : ∃ k, N = k + 1 := ⟨N - 1, by omega⟩
    rw [List.replicate_succ]; rfl
  rw [e]
  refine MapP.put (k := 0) ⟨fun k hk => ?_, fun k x hx => ?_, ?_⟩ tidy_empty (by simp; omega) (by simp [List.getD_eq_getElem?_getD, List.getElem?_replicate]; split <;> rfl) 0
  · rw [List.getD_eq_getElem?_getD, List.getElem?_replicate]
    simp [Maps.has]
    split <;> rfl
  · rw [List.getD_eq_getElem?_getD, List.getElem?_replicate] at hx
    split at hx <;> simp at hx
  · simp [Maps.size, cntS, List.countP_replicate]
/-- The memory of spreadPotentials: the net's box at block B, the map behind it. -/
structure SP (B : Nat) (w0 wr : World) (N : Int) (A : Option Addr) (n c : Nat) (D : DataW Unit) (P : List (Option Int)) : Prop where
  bel : Below B w0 wr
  box : Nx B wr N A n c
  own : wr.ownsMap Tryd.prog 3 (plainElem (H := Unit) Tryd.prog 3) (B + 1) (cntS P) D
  map : MapP D P
theorem SP.keep {B : Nat} {w0 wr w' : World} {N : Int} {A : Option Addr} {n c : Nat} {D : DataW Unit} {P : List (Option Int)} (h : SP B w0 wr N A n c D P) (hb : Below wr.heap.size wr w') : SP B w0 w' N A n c D P :=
  ⟨h.bel.trans (hb.mono (Nat.le_of_lt h.box.lt)), h.box.next hb, h.own.kept (grown_of_below hb none) (by simp), h.map⟩
theorem SP.put {B : Nat} {w0 wr w' : World} {N : Int} {A : Option Addr} {n c : Nat} {D : DataW Unit} {P : List (Option Int)} (h : SP B w0 wr N A n c D P) {k : Nat} {x : Int} (hk : k < P.length) (hn : P.getD k none = none)
    (ho : w'.ownsMap Tryd.prog 3 (plainElem (H := Unit) Tryd.prog 3) (B + 1) (cntS P + 1) (D.put (.int .i64 (k : Int)) (.lit (.int .i64 x)))) (hg : wr.drew.grownBy w' (some (B + 1))) : SP B w0 w' N A n c (D.put (.int .i64 (k : Int)) (.lit (.int .i64 x))) (P.set k (some x)) :=
  ⟨h.bel.drew.grown hg (Nat.le_of_lt h.box.lt) (fun j hj => by cases hj; omega), (h.box.next (Below.refl _ _).drew).far hg (by simp), by rw [cnt_set hk hn]; exact ho, h.map.put (h.own.tidy lawI) hk hn x⟩
theorem zip_get (L : List Wi) (cs : List Int) (k : Nat) (s : Wi) (x : Int) (h : L[k]? = some s) (h' : cs[k]? = some x) : (L.zip cs)[k]? = some (s, x) := by
  rw [List.getElem?_zip_eq_some]
  exact ⟨h, h'⟩
theorem zip_in {N : Nat} {L : List Wi} {cs : List Int} (hok : ∀ s ∈ L, WOk N s) {P : List (Option Int)} (hP : P.length = N) : ∀ p ∈ L.zip cs, InP P.length p :=
  inP_of hok (by rw [hP])
theorem repS_bd {ps : List (Wi × Int)} {N : Nat} {B : Int} (hN : 1 ≤ N) (hB : 0 ≤ B) (h : ∀ p ∈ ps, InP N p) (h2 : ∀ p ∈ ps, -B ≤ p.2 ∧ p.2 ≤ B) (j : Nat) : BdP B (repS ps j (pot0 N)) := by
  induction j with
  | zero => exact pot0_bd hB N
  | succ j ih => exact sweep_bd hB (by rw [repS_len, pot0_len hN]; exact h) h2 ih
theorem BdP.get {P : List (Option Int)} {N k : Nat} {x : Int} (h : BdP 1000000 P) (hl : P.length = N) (hN : N ≤ 12) (hx : P.getD k none = some x) : -12000000 ≤ x ∧ x ≤ 12000000 := by
  have := h k x hx
  have := cnt_le P
  omega
theorem upd_yn {P : List (Option Int)} {p q : Nat} {c x : Int} (hp : P.getD p none = some x) (hq : P.getD q none = none) : upd P (⟨p, q⟩, c) = P.set q (some (x - c)) := by
  unfold upd; simp only [Int.toNat_natCast, hp, hq]
theorem upd_ny {P : List (Option Int)} {p q : Nat} {c y : Int} (hp : P.getD p none = none) (hq : P.getD q none = some y) : upd P (⟨p, q⟩, c) = P.set p (some (y + c)) := by
  unfold upd; simp only [Int.toNat_natCast, hp, hq]
theorem upd_yy {P : List (Option Int)} {p q : Nat} {c x y : Int} (hp : P.getD p none = some x) (hq : P.getD q none = some y) : upd P (⟨p, q⟩, c) = P := by
  unfold upd; simp only [Int.toNat_natCast, hp, hq]
theorem upd_nn {P : List (Option Int)} {p q : Nat} {c : Int} (hp : P.getD p none = none) (hq : P.getD q none = none) : upd P (⟨p, q⟩, c) = P := by
  unfold upd; simp only [Int.toNat_natCast, hp, hq]

set_option maxRecDepth 100000 in
set_option maxHeartbeats 8000000 in
theorem spread_any (N : Nat) (A : Option Addr) (n c : Nat) (L : List Wi) (Ac : Option Addr) (cc : Nat) (cs : List Int) (w : World) (hl : L.length = n) (hlc : cs.length = n) (hn : n ≤ 1048576) (hN : 1 ≤ N ∧ N ≤ 12) (hL : WisAt w w.heap.size A L) (hC : IntsAt w w.heap.size Ac cs) (hok : ∀ s ∈ L, WOk N s) (hcb : ∀ x ∈ cs, -1000000 ≤ x ∧ x ≤ 1000000) :
    Calls Tryd.prog 128 #[.agg #[.int .i64 N, .slice A n c], .slice Ac n cc] w fun e w' => ∃ D, e = .returned (.map (some (w.heap.size + 1))) ∧ w'.ownsMap Tryd.prog 3 (plainElem (H := Unit) Tryd.prog 3) (w.heap.size + 1) (cntS (resS N (L.zip cs))) D ∧ MapP D (resS N (L.zip cs)) ∧ Below w.heap.size w w' := by
  subst hl
  have hps : ∀ p ∈ L.zip cs, InP N p := fun p hp => by have := zip_in (cs := cs) hok (P := pot0 N) (pot0_len hN.1) p hp; rwa [pot0_len hN.1] at this
  have hpb : ∀ p ∈ L.zip cs, -1000000 ≤ p.2 ∧ p.2 ≤ 1000000 := fun p hp => hcb p.2 (List.of_mem_zip hp).2
  obtain ⟨B, hB⟩ : ∃ B, w.heap.size = B := ⟨_, rfl⟩
  rw [hB] at hL hC
  have HOK := Lib.hid hok
  have HCB := Lib.hid hcb
  have HLC := Lib.hid hlc
  have HPS := Lib.hid hps
  have HPB := Lib.hid hpb
  clear hok hcb hlc hps hpb
  have hmm := @run_makeMap Tryd.prog
  obtain ⟨w1, hrun, hown, hgrow⟩ := (World.ownsMap_made (w.alloc (.cells #[.int .i64 N, .slice A L.length c] 51)) Tryd.prog 3 (plainElem (H := Unit) Tryd.prog 3)).update lawI Tryd.underlying163 (by unfold maxLen; omega) (keyOf_int_mk Tryd.underlying3 (a := 0) (by decide)) (plainElem_int Tryd.underlying3 (a := 0) (by decide))
  have hb1 : Below B w w1 := by
    rw [← hB]
    exact (((Below.refl _ w).alloc (Nat.le_refl _) _).alloc (by simp) _).grown hgrow (by simp; omega) (fun j hj => by simp at hj; omega)
  have q1 : Nx B w1 N A L.length c := by
    have h := (Nx.start w N A L.length c 51).next ((Below.refl _ _).alloc (Nat.le_refl _) (.map #[] 0))
    rw [hB] at h
    exact h.far hgrow (by simp; omega)
  simp only [World.size_alloc, hB] at hrun hown
  rw [Nat.zero_add] at hown
  have S1 : SP B w w1 N A L.length c _ (pot0 N) := ⟨hb1, q1, by rw [cnt_pot0]; exact hown, MapP.start hN.1⟩
  obtain ⟨D, hD⟩ : ∃ D, ((DataW.map []).put (.int .i64 0) (.lit (.int .i64 0)) : DataW Unit) = D := ⟨_, rfl⟩
  rw [hD] at S1
  clear hown hgrow hb1 hD
  obtain ⟨hz, n0, n1⟩ := id q1
  go_enter Tryd.func128, Tryd.ntmps128
  go_wp2_with fail
  go_loopw [17] (fun i wr => ∃ (j : Nat) (D : DataW Unit), j ≤ N - 1 ∧ i = .int .i64 j ∧ SP B w wr N A L.length c D (repS (L.zip cs) j (pot0 N))) (fun i _ => N - (intOf i).toNat)
  case atStart => exact ⟨0, D, Nat.zero_le _, rfl, S1⟩
  case round =>
    clear hrun hmm q1 hz n0 n1 S1
    obtain ⟨j, D, hj, rfl, S⟩ := hrel
    have HP : (repS (L.zip cs) j (pot0 N)).length = N := by rw [repS_len, pot0_len hN.1]
    have HBD := Lib.hid (repS_bd (B := 1000000) hN.1 (by decide) HPS.out HPB.out j)
    by_cases hlt : j < N - 1
    · obtain ⟨P, hPe⟩ : ∃ P, repS (L.zip cs) j (pot0 N) = P := ⟨_, rfl⟩
      rw [hPe] at S HP HBD
      have HPE := Lib.hid hPe
      clear hPe
      obtain ⟨hz, n0, n1⟩ := id S.box
      have hjN : (j : Int) < (N : Int) - 1 := by omega
      go_wp2_with fail
      go_loopw [22] (fun i wr => ∃ (k : Nat) (D : DataW Unit), k ≤ L.length ∧ i = .int .i64 k ∧ SP B w wr N A L.length c D (sweep ((L.zip cs).take k) P)) (fun i _ => L.length - (intOf i).toNat)
      case atStart => exact ⟨0, D, Nat.zero_le _, rfl, S⟩
      case round =>
        clear S hz n0 n1
        obtain ⟨k, D, hk, rfl, Sr⟩ := hrel
        have hB4 := Sr.bel
        obtain ⟨hz, n0, n1⟩ := id Sr.box
        by_cases hlt : k < L.length
        · obtain ⟨s, hs⟩ : ∃ s, L[k]? = some s := ⟨_, List.getElem?_eq_getElem hlt⟩
          obtain ⟨b, off, rfl, hb, c0, c1⟩ := (hL.below hB4) k s hs
          obtain ⟨z, hz0⟩ : ∃ z, cs[k]? = some z := ⟨_, List.getElem?_eq_getElem (by rw [HLC.out]; exact hlt)⟩
          obtain ⟨b', off', rfl, hb', d0⟩ := (hC.below hB4) k z hz0
          have hso := HOK.out s (List.mem_of_getElem? hs)
          have hzb := HCB.out z (List.mem_of_getElem? hz0)
          have k0 : (0 : Int) ≤ (k : Int) := by omega
          have k1 : (k : Int) < (L.length : Int) := by omega
          have hsw := sweep_succ (L.zip cs) P k (s, z) (zip_get _ _ _ _ _ hs hz0)
          have hbd := sweep_bd (B := 1000000) (by decide) (ps := (L.zip cs).take k) (P := P) (fun p hp => by rw [HP]; exact HPS.out p (List.mem_of_mem_take hp)) (fun p hp => HPB.out p (List.mem_of_mem_take hp)) HBD.out
          obtain ⟨a, b0⟩ := s
          obtain ⟨p, rfl⟩ := Int.eq_ofNat_of_zero_le hso.2.1
          obtain ⟨q, rfl⟩ := Int.eq_ofNat_of_zero_le hso.2.2.2.1
          obtain ⟨Q, hQ⟩ : ∃ Q, sweep ((L.zip cs).take k) P = Q := ⟨_, rfl⟩
          rw [hQ] at Sr hsw hbd
          have HQP : Q.length = N := by rw [← hQ, sweep_len]; exact HP
          have hpN : p < N := by have := hso.2.2.1; simp at this; omega
          have hqN : q < N := by have := hso.2.2.2.2; simp at this; omega
          have HSW := Lib.hid hsw
          have HQ := Lib.hid hQ
          have HBQ := Lib.hid hbd
          have HCUT := Lib.hid hC
          have HLAT := Lib.hid hL
          clear hso hs hz0 hsw hQ hbd hC hL
          have wfp : (Lit.int .i64 (p : Int)).wf = true := of_wf (by unfold wfI; omega)
          have wfq : (Lit.int .i64 (q : Int)).wf = true := of_wf (by unfold wfI; omega)
          have hown := Sr.own
          have hp1 := Sr.map.1 p (by omega)
          have hq1 := Sr.map.1 q (by omega)
          have HVp : Hid (∀ x y : Int, Q.getD p none = some x → D.atKey (.int .i64 (p : Int)) (.lit (.int .i64 0)) = .lit (.int .i64 y) → y = x) := Lib.hid fun x y hx hy => by
            rw [Sr.map.2.1 p x hx] at hy
            simp at hy; omega
          have HVq : Hid (∀ x y : Int, Q.getD q none = some x → D.atKey (.int .i64 (q : Int)) (.lit (.int .i64 0)) = .lit (.int .i64 y) → y = x) := Lib.hid fun x y hx hy => by
            rw [Sr.map.2.1 q x hx] at hy
            simp at hy; omega
          cases hp : Q.getD p none with
          | some x =>
            cases hq : Q.getD q none with
            | some y =>
              have hu : upd Q (⟨p, q⟩, z) = Q := upd_yy hp hq
              rw [hp] at hp1
              rw [hq] at hq1
              simp only [Option.isSome] at hp1 hq1
              have S5 := Lib.hid (Sr.keep ((Below.refl _ _).alloc (Nat.le_refl _) (.cells #[.int .i64 p, .int .i64 q] 110)))
              have HU := Lib.hid hu
              have HP1 := Lib.hid hp
              have HQ1 := Lib.hid hq
              clear hu Sr hB4
              go_wp2_with (at_lookup; refine wpList_lookup_own_ok_int _ rfl _ _ 163 rfl 3 3 .i64 lawI Tryd.underlying163 Tryd.underlying3 (zeroI _) (B + 1) _ D rfl (hown.alloc _) _ _ rfl (keyOf_int_mk Tryd.underlying3 (by first | exact wfp | exact wfq)) ?_; intro c1 hat1 hwc1; first | (have hc1 := HVp.out _ _ hp hat1; subst hc1) | (have hc1 := HVq.out _ _ hq hat1; subst hc1) | skip)
              go_roundw
              case rel => exact ⟨k + 1, D, by omega, by go_num, by rw [HSW.out, HU.out]; exact S5.out⟩
              case measure => simp [intOf]; omega
            | none =>
              have hu := upd_yn (c := z) hp hq
              rw [hp] at hp1
              rw [hq] at hq1
              simp only [Option.isSome] at hp1 hq1
              have hxb := HBQ.out.get HQP hN.2 hp
              have S5 := Sr.keep ((Below.refl _ _).alloc (Nat.le_refl _) (.cells #[.int .i64 p, .int .i64 q] 110))
              have hcq := cnt_le Q
              have d1 := ((((Below.refl wr.heap.size wr).alloc (Nat.le_refl _) (.cells #[.int .i64 p, .int .i64 q] 110))).cell (p := ⟨b', off' + k, none⟩) (Nat.lt_trans hb' hz)).trans d0
              obtain ⟨w7, hrun, o7, g7⟩ := ((hown.alloc (.cells #[.int .i64 p, .int .i64 q] 110)).drew).update lawI Tryd.underlying163 (by unfold maxLen; omega) (keyOf_int_mk Tryd.underlying3 wfq) (plainElem_int Tryd.underlying3 (a := x - z) (of_wf (by unfold wfI; omega)))
              have S7 := Lib.hid (S5.put (k := q) (x := x - z) (by omega) hq o7 g7)
              have HU := Lib.hid hu
              have HP1 := Lib.hid hp
              have HQ1 := Lib.hid hq
              clear hu Sr hB4 S5 o7 g7
              go_wp2_with (at_lookup; refine wpList_lookup_own_ok_int _ rfl _ _ 163 rfl 3 3 .i64 lawI Tryd.underlying163 Tryd.underlying3 (zeroI _) (B + 1) _ D rfl (hown.alloc _) _ _ rfl (keyOf_int_mk Tryd.underlying3 (by first | exact wfp | exact wfq)) ?_; intro c1 hat1 hwc1; first | (have hc1 := HVp.out _ _ hp hat1; subst hc1) | (have hc1 := HVq.out _ _ hq hat1; subst hc1) | skip)
              go_region
              go_wp2_with fail
              go_roundw
              case rel => exact ⟨k + 1, _, by omega, by go_num, by rw [HSW.out, HU.out]; exact S7.out⟩
              case measure => simp [intOf]; omega
          | none =>
            cases hq : Q.getD q none with
            | some y =>
              have hu := upd_ny (c := z) hp hq
              rw [hp] at hp1
              rw [hq] at hq1
              simp only [Option.isSome] at hp1 hq1
              have hxb := HBQ.out.get HQP hN.2 hq
              have S5 := Sr.keep ((Below.refl _ _).alloc (Nat.le_refl _) (.cells #[.int .i64 p, .int .i64 q] 110))
              have hcq := cnt_le Q
              have d1 := ((((Below.refl wr.heap.size wr).alloc (Nat.le_refl _) (.cells #[.int .i64 p, .int .i64 q] 110))).cell (p := ⟨b', off' + k, none⟩) (Nat.lt_trans hb' hz)).trans d0
              obtain ⟨w7, hrun, o7, g7⟩ := ((hown.alloc (.cells #[.int .i64 p, .int .i64 q] 110)).drew).update lawI Tryd.underlying163 (by unfold maxLen; omega) (keyOf_int_mk Tryd.underlying3 wfp) (plainElem_int Tryd.underlying3 (a := y + z) (of_wf (by unfold wfI; omega)))
              have S7 := Lib.hid (S5.put (k := p) (x := y + z) (by omega) hp o7 g7)
              have HU := Lib.hid hu
              have HP1 := Lib.hid hp
              have HQ1 := Lib.hid hq
              clear hu Sr hB4 S5 o7 g7
              go_wp2_with (at_lookup; refine wpList_lookup_own_ok_int _ rfl _ _ 163 rfl 3 3 .i64 lawI Tryd.underlying163 Tryd.underlying3 (zeroI _) (B + 1) _ D rfl (hown.alloc _) _ _ rfl (keyOf_int_mk Tryd.underlying3 (by first | exact wfp | exact wfq)) ?_; intro c1 hat1 hwc1; first | (have hc1 := HVp.out _ _ hp hat1; subst hc1) | (have hc1 := HVq.out _ _ hq hat1; subst hc1) | skip)
              go_region
              go_wp2_with fail
              go_roundw
              case rel => exact ⟨k + 1, _, by omega, by go_num, by rw [HSW.out, HU.out]; exact S7.out⟩
              case measure => simp [intOf]; omega
            | none =>
              have hu : upd Q (⟨p, q⟩, z) = Q := upd_nn hp hq
              rw [hp] at hp1
              rw [hq] at hq1
              simp only [Option.isSome] at hp1 hq1
              have S5 := Lib.hid (Sr.keep ((Below.refl _ _).alloc (Nat.le_refl _) (.cells #[.int .i64 p, .int .i64 q] 110)))
              have HU := Lib.hid hu
              have HP1 := Lib.hid hp
              have HQ1 := Lib.hid hq
              clear hu Sr hB4
              go_wp2_with (at_lookup; refine wpList_lookup_own_ok_int _ rfl _ _ 163 rfl 3 3 .i64 lawI Tryd.underlying163 Tryd.underlying3 (zeroI _) (B + 1) _ D rfl (hown.alloc _) _ _ rfl (keyOf_int_mk Tryd.underlying3 (by first | exact wfp | exact wfq)) ?_; intro c1 hat1 hwc1; first | (have hc1 := HVp.out _ _ hp hat1; subst hc1) | (have hc1 := HVq.out _ _ hq hat1; subst hc1) | skip)
              go_roundw
              case rel => exact ⟨k + 1, D, by omega, by go_num, by rw [HSW.out, HU.out]; exact S5.out⟩
              case measure => simp [intOf]; omega
        · obtain rfl : k = L.length := by omega
          have ht : (L.zip cs).take L.length = L.zip cs := List.take_of_length_le (by rw [List.length_zip]; omega)
          have e : repS (L.zip cs) (j + 1) (pot0 N) = sweep (L.zip cs) P := by show sweep (L.zip cs) (repS (L.zip cs) j (pot0 N)) = _; rw [HPE.out]
          rw [ht, ← e] at Sr
          clear e ht
          go_wp2_with fail
          go_roundw
          case rel => exact ⟨j + 1, D, by omega, by go_num, Sr⟩
          case measure => simp [intOf]; omega
    · obtain rfl : j = N - 1 := by omega
      have hjN : ¬ ((N - 1 : Nat) : Int) < (N : Int) - 1 := by omega
      have hS := Lib.hid S
      obtain ⟨hz, n0, n1⟩ := id S.box
      go_wp2_with fail
      go_ret
      exact ⟨rfl, D, hS.out.own, hS.out.map, hS.out.bel⟩
end Go.Proofs.YtbkfenhiaedlgaaDoor
