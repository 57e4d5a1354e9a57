/- IsBalanced: the program's. -/
import Derived.Test.YthifflekbdeafaaNetI
import Derived.Test.YthifflekbdeafaaNetH
import Derived.Test.YthifflekbdeafaaNetP
namespace Go.Proofs.Ythifflekbdeafaa
open Go.RowKit Go.Maps

theorem resS_full {m : Nat} {L : List Wi} {cs : List Int} (hG : NetG m L) (hlen : cs.length = L.length) : cntS (resS m (L.zip cs)) = m ∧ ∀ k, k < m → ∃ x, (resS m (L.zip cs)).getD k none = some x := by
  have h1 : 1 ≤ m := by have := hG.1; omega
  have hc := hG.2.2.2
  simp only [Int.toNat_natCast] at hc
  have hle : LeP (resS m (zps L)) (resS m (L.zip cs)) := by
    unfold resS
    exact repS_le (by rw [zps_fst, List.map_fst_zip (by omega)]; exact List.prefix_refl _) _ _
  have hcc := cnt_mono hle (by rw [resS_len h1, resS_len h1]) (by rw [resS_len h1]; exact hc)
  refine ⟨by rw [hcc, resS_len h1], fun k hk => ?_⟩
  have hf := full_iff.1 hcc
  have hkl : k < (resS m (L.zip cs)).length := by rw [resS_len h1]; exact hk
  have hm : (mask (resS m (L.zip cs))).getD k false = true := by
    have hkm : k < (mask (resS m (L.zip cs))).length := by rw [mask_len]; exact hkl
    rw [List.getD_eq_getElem?_getD, List.getElem?_eq_getElem hkm]
    exact hf _ (List.getElem_mem hkm)
  rw [mask_getD] at hm
  exact Option.isSome_iff_exists.1 hm
theorem IsBl_nil (P : List (Option Int)) (ps : List (Wi × Int)) : IsBl P (ps.take 0) := fun p hp => by simp at hp
theorem IsBl_succ {P : List (Option Int)} {ps : List (Wi × Int)} {k : Nat} {p : Wi × Int} (h : IsBl P (ps.take k)) (hp : ps[k]? = some p) (he : (P.getD p.1.a.toNat none).getD 0 - (P.getD p.1.b.toNat none).getD 0 = p.2) : IsBl P (ps.take (k + 1)) := by
  intro x hx
  rw [List.take_add_one, hp] at hx
  simp only [Option.toList, List.mem_append, List.mem_singleton] at hx
  rcases hx with hx | rfl
  · exact h x hx
  · exact he
theorem resS_bd {m : Nat} {ps : List (Wi × Int)} (hm : 1 ≤ m) (h : ∀ p ∈ ps, InP m p) (h2 : ∀ p ∈ ps, -1000000 ≤ p.2 ∧ p.2 ≤ 1000000) : BdP 1000000 (resS m ps) := by
  unfold resS
  exact repS_bd hm (by decide) h h2 _
/-- The memory of IsBalanced: the net's box at block B, a map of potentials at block M. -/
structure MB (B M : Nat) (w0 wr : World) (N : Int) (A : Option Addr) (n c k : Nat) (D : DataW Unit) : Prop where
  bel : Below B w0 wr
  box : Nx B wr N A n c
  own : wr.ownsMap Try.prog 3 (plainElem (H := Unit) Try.prog 3) M k D
theorem MB.keep {B M : Nat} {w0 wr w' : World} {N : Int} {A : Option Addr} {n c k : Nat} {D : DataW Unit} (h : MB B M w0 wr N A n c k D) (hb : Below wr.heap.size wr w') : MB B M w0 w' N A n c k D :=
  ⟨h.bel.trans (hb.mono (Nat.le_of_lt h.box.lt)), h.box.next hb, h.own.kept (grown_of_below hb none) (by simp)⟩
theorem MB.at {B M : Nat} {w0 wr : World} {N : Int} {A : Option Addr} {n c k : Nat} {D : DataW Unit} (h : MB B M w0 wr N A n c k D) {P : List (Option Int)} (hP : MapP D P) {p : Nat} {x : Int} (hx : P.getD p none = some x) (hw : (Lit.int .i64 (p : Int)).wf = true) :
    (Instr.lookup 76 (.map (some M)) (.int .i64 (p : Int)) false).run Try.prog wr.drew = .ok (.int .i64 x) wr.drew := by
  obtain ⟨c, hrun, hat, _⟩ := (h.own.drew).lookup_int lawI Try.underlying76 Try.underlying3 (zeroI _) (keyOf_int_mk Try.underlying3 hw)
  rw [hP.2.1 p x hx] at hat
  simp at hat
  rw [hat]
  exact hrun

set_option maxRecDepth 100000 in
set_option maxHeartbeats 4000000 in
theorem implBal_any (N : Int) (A : Option Addr) (n c : Nat) (L : List Wi) (Ac : Option Addr) (nc cc : Nat) (cs : List Int) (w : World) (hl : L.length = n) (hlc : cs.length = nc) (hn : n ≤ 1048576) (hnc : nc ≤ 1048576) (hL : WisAt w w.heap.size A L) (hC : IntsAt w w.heap.size Ac cs) (hN : wfI N) :
    Calls Try.prog 23 #[.agg #[.int .i64 N, .slice A n c], .slice Ac nc cc] w (RetBB w (Asked N L cs ∧ IsBl (resS N.toNat (L.zip cs)) (L.zip cs)) (Asked N L cs)) := by
  subst hl
  subst hlc
  obtain ⟨W1, hW1⟩ : ∃ W1, W1 = w.alloc (.cells #[.int .i64 N, .slice A L.length c] 31) := ⟨_, rfl⟩
  have q1 : Nx w.heap.size W1 N A L.length c := by rw [hW1]; exact Nx.start _ _ _ _ _ _
  have hB1 : Below w.heap.size w W1 := by rw [hW1]; exact (Below.refl _ _).alloc (Nat.le_refl _) _
  obtain ⟨B, hBB⟩ : ∃ B, w.heap.size = B := ⟨_, rfl⟩
  rw [hBB] at q1 hL hC hB1
  by_cases hA : Asked N L cs
  · obtain ⟨m, rfl⟩ := Int.eq_ofNat_of_zero_le (show 0 ≤ N by have := hA.1.1; omega)
    have hm : 2 ≤ m ∧ m ≤ 12 := by have := hA.1.1; omega
    have hok := hA.1.2.2.1
    have hcb := hA.2.2
    have hlen := hA.2.1
    have h30 := hA.1.2.1.2
    have hzl : (L.zip cs).length = L.length := by rw [List.length_zip]; omega
    have hps : ∀ p ∈ L.zip cs, InP m p := fun p hp => by have := zip_in (cs := cs) hok (P := pot0 m) (pot0_len (by omega)) p hp; rwa [pot0_len (by omega)] at this
    have hbd := resS_bd (by omega) hps (fun p hp => hcb p.2 (List.of_mem_zip hp).2)
    obtain ⟨hcnt, hfull⟩ := resS_full hA.1 hlen
    have hrl := resS_len (N := m) (by omega) (L.zip cs)
    have HSP : Hid (∀ w' : World, WisAt w' w'.heap.size A L → IntsAt w' w'.heap.size Ac cs → Calls Try.prog 61 #[.agg #[.int .i64 m, .slice A L.length c], .slice Ac cs.length cc] w' fun e w2 => ∃ D, e = .returned (.map (some (w'.heap.size + 1))) ∧ w2.ownsMap Try.prog 3 (plainElem (H := Unit) Try.prog 3) (w'.heap.size + 1) (cntS (resS m (L.zip cs))) D ∧ MapP D (resS m (L.zip cs)) ∧ Below w'.heap.size w' w2) := Lib.hid fun w' h1 h2 => by
      rw [hlen]
      exact spread_any m A L.length c L Ac cc cs w' rfl hlen hn ⟨by omega, hm.2⟩ h1 h2 hok hcb
    obtain ⟨P, hP⟩ : ∃ P, resS m (L.zip cs) = P := ⟨_, rfl⟩
    have hgoal : (Asked (m : Int) L cs ∧ IsBl (resS (m : Int).toNat (L.zip cs)) (L.zip cs)) = (Asked (m : Int) L cs ∧ IsBl P (L.zip cs)) := by rw [Int.toNat_natCast, hP]
    rw [hgoal]
    rw [hP] at hbd hcnt hfull hrl HSP
    have HBD := Lib.hid hbd
    have HFU := Lib.hid hfull
    have HRL := Lib.hid hrl
    have HOK := Lib.hid hok
    have HCB := Lib.hid hcb
    have HLE := Lib.hid hlen
    have HZL := Lib.hid hzl
    have HA := Lib.hid hA
    clear hlen hzl hP hgoal hcnt hps
    go_enter Try.func23, Try.ntmps23
    go_wp2_with fail
    rw [← hW1]
    clear hW1
    refine (callB_yes (areCurrents_any _ A _ c L Ac _ cc cs _ rfl rfl (by omega) hnc ((hL.below hB1).mono (Nat.le_of_lt q1.lt)) ((hC.below hB1).mono (Nat.le_of_lt q1.lt)) hN) hA).mono ?_
    rintro e w2 ⟨rfl, hb2⟩
    have q2 := q1.next hb2
    have hB2 := hB1.trans (hb2.mono (Nat.le_of_lt q1.lt))
    obtain ⟨hz, n0, n1⟩ := id q2
    clear q1 hb2 hB1 hA hbd hok hcb hfull hrl
    go_wp2_with fail
    refine (HSP.out w2 ((hL.below hB2).mono (Nat.le_of_lt hz)) ((hC.below hB2).mono (Nat.le_of_lt hz))).mono ?_
    rintro e w3 ⟨D, rfl, hown, hmap, hb3⟩
    obtain ⟨M, hM⟩ : ∃ M, w2.heap.size + 1 = M := ⟨_, rfl⟩
    rw [hM] at hown ⊢
    have Z3 : MB B M w w3 m A L.length c (cntS P) D := ⟨hB2.trans (hb3.mono (Nat.le_of_lt hz)), q2.next hb3, hown⟩
    have HMP := Lib.hid hmap
    clear hown q2 hB2 hz n0 n1 hb3 hM hmap
    obtain ⟨hz, n0, n1⟩ := id Z3.box
    go_wp2_with fail
    go_loopw [19] (fun i wr => ∃ k : Nat, k ≤ L.length ∧ i = .int .i64 k ∧ MB B M w wr m A L.length c (cntS P) D ∧ IsBl P ((L.zip cs).take k)) (fun i _ => L.length - (intOf i).toNat)
    case atStart => exact ⟨0, Nat.zero_le _, rfl, Z3, IsBl_nil _ _⟩
    case round =>
      obtain ⟨k, hk, rfl, Zr, hbl⟩ := hrel
      clear Z3 hz n0 n1
      obtain ⟨hz, n0, n1⟩ := id Zr.box
      have HBL := Lib.hid hbl
      clear hbl
      by_cases hlt : k < L.length
      · obtain ⟨s, hs⟩ : ∃ s, L[k]? = some s := ⟨_, List.getElem?_eq_getElem hlt⟩
        obtain ⟨b, off, rfl, hbb, c0, c1⟩ := (hL.below Zr.bel) k s hs
        obtain ⟨z, hz0⟩ : ∃ z, cs[k]? = some z := ⟨_, List.getElem?_eq_getElem (by rw [HLE.out]; exact hlt)⟩
        obtain ⟨b', off', rfl, hb', d0⟩ := (hC.below Zr.bel) k z hz0
        have hso := HOK.out s (List.mem_of_getElem? hs)
        have hzb := HCB.out z (List.mem_of_getElem? hz0)
        have HZ := Lib.hid (zip_get L cs k s z hs hz0)
        obtain ⟨a, b0⟩ := s
        obtain ⟨p, rfl⟩ := Int.eq_ofNat_of_zero_le hso.2.1
        obtain ⟨q, rfl⟩ := Int.eq_ofNat_of_zero_le hso.2.2.2.1
        have hpN : p < m := by have := hso.2.2.1; simp at this; omega
        have hqN : q < m := by have := hso.2.2.2.2; simp at this; omega
        obtain ⟨x, hx⟩ := HFU.out p hpN
        obtain ⟨y, hy⟩ := HFU.out q hqN
        have hxb := HBD.out.get HRL.out hm.2 hx
        have hyb := HBD.out.get HRL.out hm.2 hy
        have wfp : (Lit.int .i64 (p : Int)).wf = true := of_wf (by unfold wfI; omega)
        have wfq : (Lit.int .i64 (q : Int)).wf = true := of_wf (by unfold wfI; omega)
        have HX := Lib.hid hx
        have HY := Lib.hid hy
        have k0 : (0 : Int) ≤ (k : Int) := by omega
        have k1 : (k : Int) < (L.length : Int) := by omega
        have k2 : (k : Int) < (cs.length : Int) := by rw [HLE.out]; exact k1
        have hw1 : IntKind.i64.wrap (x - y) = x - y := IntWalk.i64_in _ (by omega)
        clear hso hs hz0 hx hy
        go_wp2_with fail
        obtain ⟨W5, hW5⟩ : ∃ W5, W5 = wr.alloc (.cells #[.int .i64 p, .int .i64 q] 72) := ⟨_, rfl⟩
        have hb5 : Below wr.heap.size wr W5 := by rw [hW5]; exact (Below.refl _ _).alloc (Nat.le_refl _) _
        have hz5 : wr.heap.size < W5.heap.size := by rw [hW5]; simp
        have v0 : W5.cell? ⟨wr.heap.size, 0, none⟩ = some (.int .i64 p) := by rw [hW5]; simp
        have v1 : W5.cell? ⟨wr.heap.size, 1, none⟩ = some (.int .i64 q) := by rw [hW5]; simp
        have Z5 := Zr.keep hb5
        have d5 := (hb5.cell (p := ⟨b', off' + k, none⟩) (Nat.lt_trans hb' hz)).trans d0
        rw [← hW5]
        obtain ⟨V, hV⟩ : ∃ V, wr.heap.size = V := ⟨_, rfl⟩
        rw [hV] at hz5 v0 v1 ⊢
        clear hW5 hb5 Zr n0 n1 d0 c0 c1 hV
        have r0 := Z5.at HMP.out HX.out wfp
        have r1 := Z5.at HMP.out HY.out wfq
        have hB5 := Z5.bel
        by_cases hne : x - y = z
        · subst hne
          go_region
          all_goals
            go_wp2_with fail
            go_roundw
          case rel => exact ⟨k + 1, by omega, by go_num, Z5.keep (Below.refl _ _).drew, IsBl_succ HBL.out HZ.out (by simp only [Int.toNat_natCast]; rw [HX.out, HY.out]; rfl)⟩
          case measure => simp [intOf]; omega
        · have e1 : (x - y == z) = false := by simp [hne]
          have e2 : (x - y != z) = true := by simp [hne]
          have HNO : Hid (¬ IsBl P (L.zip cs)) := Lib.hid fun h => hne (by
            have := h _ (List.mem_of_getElem? HZ.out)
            simp only [Int.toNat_natCast] at this
            rw [HX.out, HY.out] at this
            exact this)
          go_region
          all_goals
            go_wp2_with fail
            go_ret2
            exact RetBB.mk ⟨(fun h => by cases h), fun h => absurd h.2 HNO.out⟩ ⟨fun _ => HA.out, fun _ => rfl⟩ (by rw [hBB]; exact hB5.drew)
      · obtain rfl : k = L.length := by omega
        have HYES : Hid (IsBl P (L.zip cs)) := Lib.hid (by
          have := HBL.out
          rwa [List.take_of_length_le (by rw [HZL.out]; exact Nat.le_refl _)] at this)
        have hB := Zr.bel
        go_wp2_with fail
        go_ret2
        exact RetBB.mk ⟨fun _ => ⟨HA.out, HYES.out⟩, fun _ => rfl⟩ ⟨fun _ => HA.out, fun _ => rfl⟩ (by rw [hBB]; exact hB)
  · have HNO := Lib.hid hA
    go_enter Try.func23, Try.ntmps23
    go_wp2_with fail
    rw [← hW1]
    clear hW1
    refine (callB_no (areCurrents_any N A _ c L Ac _ cc cs _ rfl rfl (by omega) hnc ((hL.below hB1).mono (Nat.le_of_lt q1.lt)) ((hC.below hB1).mono (Nat.le_of_lt q1.lt)) hN) hA).mono ?_
    rintro e w2 ⟨rfl, hb2⟩
    have hB2 := hB1.trans (hb2.mono (Nat.le_of_lt q1.lt))
    clear hA
    go_wp2_with fail
    go_ret2
    exact RetBB.mk ⟨(fun h => by cases h), fun h => absurd h.1 HNO.out⟩ ⟨(fun h => by cases h), fun h => absurd h HNO.out⟩ (by rw [hBB]; exact hB2)

end Go.Proofs.Ythifflekbdeafaa
