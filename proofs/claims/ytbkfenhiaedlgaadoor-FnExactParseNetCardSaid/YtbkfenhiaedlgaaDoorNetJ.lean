/- The model's neJoined. -/
import Derived.Test.YtbkfenhiaedlgaaDoorNetW
import Derived.Deep.LoopGhost
set_option linter.all false
namespace Go.Proofs.YtbkfenhiaedlgaaDoor
open Go.RowKit

theorem infoBool : (Tryd.prog.info? 4).map (fun i => (i.zero, i.size, i.bytes)) = some (some (.bool false), 1, 1) := by kernel_rfl
def bools (l : List Bool) : List Value := l.map Value.bool
theorem bools_len (l : List Bool) : (bools l).length = l.length := by simp [bools]
theorem bools_set (l : List Bool) (k : Nat) (b : Bool) : bools (l.set k b) = (bools l).set k (.bool b) := by simp [bools, List.map_set]
theorem made_bools (N : Nat) : bools (List.replicate N false) = (madeCells (Value.bool false).cells (N * 1)).toList := by
  apply List.ext_getElem?
  intro i
  simp [bools, madeCells, Value.cells, Nat.mod_one, List.getElem?_replicate]
  split <;> simp_all
/-- The memory of neJoined: the net's box at block B, the list of what is seen behind it. -/
structure JS (B : Nat) (w0 wr : World) (N : Nat) (A : Option Addr) (n c : Nat) (m : List Bool) : Prop where
  bel : Below B w0 wr
  box : Nx B wr N A n c
  own : wr.ownsRow (B + 1) 4 1 (.slice (some ⟨B + 1, 0, none⟩) N N) N (bools m)
theorem JS.len {B : Nat} {w0 wr : World} {N : Nat} {A : Option Addr} {n c : Nat} {m : List Bool} (h : JS B w0 wr N A n c m) : m.length = N := by
  have := h.own.1; rw [bools_len] at this; omega
theorem JS.keep {B : Nat} {w0 wr w' : World} {N : Nat} {A : Option Addr} {n c : Nat} {m : List Bool} (h : JS B w0 wr N A n c m) (hb : Below wr.heap.size wr w') : JS B w0 w' N A n c m :=
  ⟨h.bel.trans (hb.mono (Nat.le_of_lt h.box.lt)), h.box.next hb, own_keep h.own hb⟩
theorem JS.cell {B : Nat} {w0 wr : World} {N : Nat} {A : Option Addr} {n c : Nat} {m : List Bool} (h : JS B w0 wr N A n c m) {k : Nat} (hk : k < N) : wr.cell? ⟨B + 1, k, none⟩ = some (.bool (m.getD k false)) := by
  have hl := h.len
  rw [h.own.cellAt k (by omega)]
  simp [bools, List.getElem?_eq_getElem (show k < m.length by omega)]
theorem JS.set {B : Nat} {w0 wr : World} {N : Nat} {A : Option Addr} {n c : Nat} {m : List Bool} (h : JS B w0 wr N A n c m) (k : Nat) : JS B w0 (wr.setCell ⟨B + 1, k, none⟩ (.bool true)) N A n c (m.set k true) := by
  have hs := h.own.stored k (.bool true)
  refine ⟨h.bel.setCell (p := ⟨B + 1, k, none⟩) (Nat.le_succ _) _, h.box.far hs.2 (by simp), ?_⟩
  rw [bools_set]
  exact hs.1

theorem mask_pot0 (N : Nat) : mask (pot0 N) = true :: List.replicate (N - 1) false := by
  unfold mask pot0
  rw [List.map_cons, List.map_replicate]; rfl
theorem mask_start {N : Nat} (h : 1 ≤ N) : (List.replicate N false).set 0 true = mask (pot0 N) := by
  obtain ⟨k, rfl⟩ : ∃ k, N = k + 1 := ⟨N - 1, by omega⟩
  rw [mask_pot0, List.replicate_succ]
  rfl
theorem mask_updT {P : List (Option Int)} {p q : Nat} (hp : p < P.length) (hq : q < P.length) (h : (mask P).getD p false ≠ (mask P).getD q false) : mask (upd P (⟨p, q⟩, 0)) = ((mask P).set p true).set q true := by
  rw [mask_getD, mask_getD] at h
  have e := mask_upd (P := P) (p := (⟨p, q⟩, 0)) (by unfold InP; simp; omega)
  rw [if_pos (by simpa using h)] at e
  simpa using e
theorem mask_updF {P : List (Option Int)} {p q : Nat} (hp : p < P.length) (hq : q < P.length) (h : (mask P).getD p false = (mask P).getD q false) : upd P (⟨p, q⟩, 0) = P := by
  rw [mask_getD, mask_getD] at h
  rcases upd_cnt (P := P) (p := (⟨p, q⟩, 0)) (by unfold InP; simp; omega) with ⟨_, hn⟩ | ⟨he, _⟩
  · exact absurd (by simpa using h) hn
  · exact he
theorem cnt_updT {P : List (Option Int)} {p q : Nat} (hp : p < P.length) (hq : q < P.length) (h : (mask P).getD p false ≠ (mask P).getD q false) : cntS (upd P (⟨p, q⟩, 0)) = cntS P + 1 := by
  rw [mask_getD, mask_getD] at h
  rcases upd_cnt (P := P) (p := (⟨p, q⟩, 0)) (by unfold InP; simp; omega) with ⟨e, _⟩ | ⟨_, he⟩
  · exact e
  · exact absurd (by simpa using he) h
theorem zps_get (L : List Wi) (k : Nat) : (zps L)[k]? = (L[k]?).map fun w => (w, 0) := by simp [zps]
theorem zps_in {N : Nat} {L : List Wi} (hok : ∀ s ∈ L, WOk N s) {P : List (Option Int)} (hP : P.length = N) : ∀ p ∈ zps L, InP P.length p := by
  intro p hp
  obtain ⟨s, hs, rfl⟩ := List.mem_map.1 hp
  have := hok s hs
  unfold WOk at this
  unfold InP
  simp
  omega

set_option maxRecDepth 100000 in
set_option maxHeartbeats 8000000 in
theorem neJoined_any (N : Nat) (A : Option Addr) (n c : Nat) (L : List Wi) (w : World) (hl : L.length = n) (hn : n ≤ 1048576) (hN : 1 ≤ N ∧ N ≤ 1000) (hL : WisAt w w.heap.size A L) (hok : ∀ s ∈ L, WOk N s) :
    Calls Tryd.prog 125 #[.agg #[.int .i64 N, .slice A n c]] w (RetB w (cntS (resS N (zps L)) = N)) := by
  subst hl
  obtain ⟨B, hB⟩ : ∃ B, w.heap.size = B := ⟨_, rfl⟩
  obtain ⟨i0, hi, hz0, hz1, hz2⟩ := info_parts infoBool
  have HOK := Lib.hid hok
  clear hok
  go_enter Tryd.func125, Tryd.ntmps125
  go_wp2_with (at_make; refine wpList_make_full _ rfl _ _ 184 rfl (w.heap.size + 1) 4 i0 (.bool false) 1 Tryd.underlying184 hi hz0 hz1 .i64 .i64 N N N rfl rfl rfl rfl (by rw [hz2]; omega) (by unfold maxLen; omega) (by simp) ?_; intro w1 hown hgrow; simp only [World.size_alloc, hB] at hown; obtain ⟨v0, e0⟩ := own_some hown (j := 0) (by have := hown.1; omega); have f0 := hown.frozenAt 0)
  have hb1 : Below B w w1 := by
    rw [← hB]
    exact ((Below.refl _ w).alloc (Nat.le_refl _) _).trans ((Below.refl _ _).grown hgrow (by simp) (by simp))
  have q1 : Nx B w1 N A L.length c := by
    have h := Nx.start w N A L.length c 51
    rw [hB] at h
    exact h.far hgrow (by simp)
  have J1 : JS B w w1 N A L.length c (List.replicate N false) := ⟨hb1, q1, by
    have : bools (List.replicate N false) = (madeCells (Value.bool false).cells (N * 1)).toList := made_bools N
    rw [this]; exact hown⟩
  have J2 := J1.set 0
  rw [mask_start hN.1] at J2
  rw [hB] at hL
  clear hgrow hown hb1 q1 J1 e0 f0 hi hz0 hz1 hz2
  go_loopg [4] (N + 2) (fun k v wr => ∃ j g, v = .bool g ∧ JS B w wr N A L.length c (mask (repS (zps L) j (pot0 N))) ∧ (g = true → j + 1 ≤ cntS (repS (zps L) j (pot0 N)) ∧ j + k = N + 2) ∧ (g = false → resS N (zps L) = repS (zps L) j (pot0 N)))
  case atStart => exact ⟨0, true, rfl, J2, fun _ => ⟨by show 0 + 1 ≤ cntS (pot0 N); rw [cnt_pot0]; exact Nat.le_refl _, by omega⟩, fun h => by cases h⟩
  case round =>
    obtain ⟨j, g, rfl, J, hT, hF⟩ := hrel
    have HP : (repS (zps L) j (pot0 N)).length = N := by rw [repS_len, pot0_len hN.1]
    cases g with
    | true =>
      obtain ⟨hc, hjk⟩ := hT rfl
      clear hF hT J2
      obtain ⟨P, hPe⟩ : ∃ P, repS (zps L) j (pot0 N) = P := ⟨_, rfl⟩
      rw [hPe] at J hc HP
      have HPE := Lib.hid hPe
      have HJK := Lib.hid hjk
      clear hPe hjk
      have hB3 := J.bel
      obtain ⟨hz, n0, n1⟩ := id J.box
      go_wp2_with fail
      go_loopw [4, 18] (fun v i wr => ∃ (k : Nat) (g : Bool), k ≤ L.length ∧ i = .int .i64 k ∧ v = .bool g ∧ JS B w wr N A L.length c (mask (sweep ((zps L).take k) P)) ∧ cntS P ≤ cntS (sweep ((zps L).take k) P) ∧ (g = true → cntS P < cntS (sweep ((zps L).take k) P)) ∧ (g = false → sweep ((zps L).take k) P = P)) (fun _ i _ => L.length - (intOf i).toNat)
      case atStart => exact ⟨0, false, Nat.zero_le _, rfl, rfl, J, Nat.le_refl _, (fun h => by cases h), (fun _ => rfl)⟩
      case round =>
        obtain ⟨k, g, hk, rfl, rfl, Jr, hle, hT, hF⟩ := hrel
        have hB4 := Jr.bel
        obtain ⟨hz, n0, n1⟩ := id Jr.box
        by_cases hlt : k < L.length
        · obtain ⟨s, hs⟩ : ∃ s, L[k]? = some s := ⟨_, List.getElem?_eq_getElem hlt⟩
          obtain ⟨b, off, rfl, hb, c0, c1⟩ := (hL.below hB4) k s hs
          have hso := HOK.out s (List.mem_of_getElem? hs)
          have k0 : (0 : Int) ≤ (k : Int) := by omega
          have k1 : (k : Int) < (L.length : Int) := by omega
          have hsw := sweep_succ (zps L) P k (s, 0) (by rw [zps_get, hs]; rfl)
          obtain ⟨a, b⟩ := s
          obtain ⟨p, rfl⟩ := Int.eq_ofNat_of_zero_le hso.2.1
          obtain ⟨q, rfl⟩ := Int.eq_ofNat_of_zero_le hso.2.2.2.1
          obtain ⟨Q, hQ⟩ : ∃ Q, sweep ((zps L).take k) P = Q := ⟨_, rfl⟩
          rw [hQ] at Jr hle hT hF hsw
          have HQP : Q.length = N := by rw [← hQ, sweep_len]; exact HP
          have hpN : p < N := by have := hso.2.2.1; simp at this; omega
          have hqN : q < N := by have := hso.2.2.2.2; simp at this; omega
          have hpq : p ≠ q := fun e => hso.1 (by simp [e])
          have hVB : B + 1 < wr.heap.size := (own_lt Jr.own).2
          have HSW := Lib.hid hsw
          have HT := Lib.hid hT
          have HF := Lib.hid hF
          have HQ := Lib.hid hQ
          clear hso hs hsw hT hF hQ J n0 n1 hz
          obtain ⟨hz, n0, n1⟩ := id Jr.box
          go_wp2_with fail
          obtain ⟨W5, hW5⟩ : ∃ W5, W5 = wr.alloc (.cells #[.int .i64 p, .int .i64 q] 110) := ⟨_, rfl⟩
          have hb5 : Below wr.heap.size wr W5 := by rw [hW5]; exact (Below.refl _ _).alloc (Nat.le_refl _) _
          have hz5 : wr.heap.size < W5.heap.size := by rw [hW5]; simp
          have v0 : W5.cell? ⟨wr.heap.size, 0, none⟩ = some (.int .i64 p) := by rw [hW5]; simp
          have v1 : W5.cell? ⟨wr.heap.size, 1, none⟩ = some (.int .i64 q) := by rw [hW5]; simp
          have J5 := Jr.keep hb5
          obtain ⟨V, hV⟩ : ∃ V, wr.heap.size = V := ⟨_, rfl⟩
          rw [← hW5]
          rw [hV] at hz5 v0 v1 hVB ⊢
          have hV1 : ¬ V = B + 1 := by omega
          have hV2 : ¬ B + 1 = V := by omega
          clear hW5 hb5 Jr n0 n1 hz
          obtain ⟨x, hx⟩ : ∃ x, (mask Q).getD p false = x := ⟨_, rfl⟩
          obtain ⟨y, hy⟩ : ∃ y, (mask Q).getD q false = y := ⟨_, rfl⟩
          have s0 := J5.cell hpN
          have s1 := J5.cell hqN
          rw [hx] at s0
          rw [hy] at s1
          have hbW : B + 1 < W5.heap.size := (own_lt J5.own).2
          have C0 : ∀ u : Later W5.heap.size W5, u.val.cell? ⟨V, 0, none⟩ = some (.int .i64 p) := fun u => (u.ok.cell (p := ⟨V, _, none⟩) hz5).trans v0
          have C1 : ∀ u : Later W5.heap.size W5, u.val.cell? ⟨V, 1, none⟩ = some (.int .i64 q) := fun u => (u.ok.cell (p := ⟨V, _, none⟩) hz5).trans v1
          have D0 : ∀ u : Later W5.heap.size W5, u.val.cell? ⟨B + 1, p, none⟩ = some (.bool x) := fun u => (u.ok.cell (p := ⟨B + 1, _, none⟩) hbW).trans s0
          have D1 : ∀ u : Later W5.heap.size W5, u.val.cell? ⟨B + 1, q, none⟩ = some (.bool y) := fun u => (u.ok.cell (p := ⟨B + 1, _, none⟩) hbW).trans s1
          have p0 : (0 : Int) ≤ (p : Int) := by omega
          have p1 : (p : Int) < (N : Int) := by omega
          have q0 : (0 : Int) ≤ (q : Int) := by omega
          have q1 : (q : Int) < (N : Int) := by omega
          have HX := Lib.hid hx
          have HY := Lib.hid hy
          clear hx hy
          refine wp_region_sub W5.heap.size (by kernel_rfl) (by kernel_rfl) ?_
          repeat (first | go_big_quiet_step (fail) | quiet_step (fail))
          refine wpQuiet_nil ?_
          rintro _ ⟨⟨w6, hb6⟩, rfl⟩
          clear C0 C1 D0 D1
          have J6 := J5.keep hb6
          have v0 := (hb6.cell (p := ⟨V, 0, none⟩) hz5).trans v0
          have v1 := (hb6.cell (p := ⟨V, 1, none⟩) hz5).trans v1
          have hz6 := Nat.lt_of_lt_of_le hz5 hb6.size
          clear J5 hb6 s0 s1 hz5
          cases x
          · cases y
            · have hu : upd Q (⟨p, q⟩, 0) = Q := mask_updF (by omega) (by omega) (HX.out.trans HY.out.symm)
              go_wp2_with fail
              go_roundw
              case rel => exact ⟨k + 1, g, by omega, by go_num, rfl, by rw [HSW.out, hu]; exact J6, by rw [HSW.out, hu]; exact hle, by rw [HSW.out, hu]; exact HT.out, by rw [HSW.out, hu]; exact HF.out⟩
              case measure => simp [intOf]; omega
            · have hne : (mask Q).getD p false ≠ (mask Q).getD q false := by rw [HX.out, HY.out]; decide
              have hu := mask_updT (P := Q) (by omega) (by omega) hne
              have hv := cnt_updT (P := Q) (by omega) (by omega) hne
              have hpq2 : ¬ p = q := hpq
              have hqp : ¬ q = p := fun e => hpq e.symm
              have f0 := J6.own.frozenAt p
              have f1 := J6.own.frozenAt q
              have s0 := J6.cell hpN
              have s1 := J6.cell hqN
              rw [HX.out] at s0
              rw [HY.out] at s1
              have HU := Lib.hid hu
              have HVV := Lib.hid hv
              have J7 := Lib.hid ((J6.set p).set q)
              clear hu hv hne hpq
              go_wp2_with fail
              go_roundw
              case rel =>
                refine ⟨k + 1, true, by omega, by go_num, rfl, by rw [HSW.out, HU.out]; exact J7.out, by rw [HSW.out, HVV.out]; omega, (fun _ => by rw [HSW.out, HVV.out]; omega), (fun h => by cases h)⟩
              case measure => simp [intOf]; omega
          · cases y
            · have hne : (mask Q).getD p false ≠ (mask Q).getD q false := by rw [HX.out, HY.out]; decide
              have hu := mask_updT (P := Q) (by omega) (by omega) hne
              have hv := cnt_updT (P := Q) (by omega) (by omega) hne
              have hpq2 : ¬ p = q := hpq
              have hqp : ¬ q = p := fun e => hpq e.symm
              have f0 := J6.own.frozenAt p
              have f1 := J6.own.frozenAt q
              have s0 := J6.cell hpN
              have s1 := J6.cell hqN
              rw [HX.out] at s0
              rw [HY.out] at s1
              have HU := Lib.hid hu
              have HVV := Lib.hid hv
              have J7 := Lib.hid ((J6.set p).set q)
              clear hu hv hne hpq
              go_wp2_with fail
              go_roundw
              case rel =>
                refine ⟨k + 1, true, by omega, by go_num, rfl, by rw [HSW.out, HU.out]; exact J7.out, by rw [HSW.out, HVV.out]; omega, (fun _ => by rw [HSW.out, HVV.out]; omega), (fun h => by cases h)⟩
              case measure => simp [intOf]; omega
            · have hu : upd Q (⟨p, q⟩, 0) = Q := mask_updF (by omega) (by omega) (HX.out.trans HY.out.symm)
              go_wp2_with fail
              go_roundw
              case rel => exact ⟨k + 1, g, by omega, by go_num, rfl, by rw [HSW.out, hu]; exact J6, by rw [HSW.out, hu]; exact hle, by rw [HSW.out, hu]; exact HT.out, by rw [HSW.out, hu]; exact HF.out⟩
              case measure => simp [intOf]; omega
        · obtain rfl : k = L.length := by omega
          have ht : (zps L).take L.length = zps L := List.take_of_length_le (by simp [zps])
          rw [ht] at Jr hle hT hF
          have e : repS (zps L) (j + 1) (pot0 N) = sweep (zps L) P := by show sweep (zps L) (repS (zps L) j (pot0 N)) = _; rw [HPE.out]
          have HT := Lib.hid hT
          have HF := Lib.hid hF
          have HE := Lib.hid e
          clear hT hF e ht J
          go_wp2_with fail
          go_roundg (if g then gk - 1 else 0)
          case measure =>
            have := HJK.out
            have := cnt_le P
            cases g with
            | false => simp; omega
            | true => simp; omega
          case rel =>
            refine ⟨j + 1, g, rfl, by rw [HE.out]; exact Jr, ?_, ?_⟩
            · intro hg
              subst hg
              have := HJK.out
              have := HT.out rfl
              have := cnt_le P
              rw [HE.out]
              exact ⟨by omega, by simp; omega⟩
            · intro hg
              rw [HE.out, HF.out hg, ← HPE.out]
              exact resS_of hN.1 (by rw [HPE.out]; exact hc) (by rw [HPE.out]; exact HF.out hg)
    | false =>
      have hR := hF rfl
      clear hF hT J2
      obtain ⟨P, hPe⟩ : ∃ P, repS (zps L) j (pot0 N) = P := ⟨_, rfl⟩
      rw [hPe] at J hR HP
      have HFull : cntS (resS N (zps L)) = N ↔ ∀ b ∈ mask P, b = true := by rw [hR, ← full_iff, HP]
      have HFU := Lib.hid HFull
      have HML : (mask P).length = N := by rw [mask_len]; exact HP
      clear hPe hR HFull
      have hB3 := J.bel
      obtain ⟨hz, n0, n1⟩ := id J.box
      go_wp2_with fail
      go_loopw [44] (fun i wr => ∃ (k : Nat), k ≤ N ∧ i = .int .i64 k ∧ JS B w wr N A L.length c (mask P) ∧ ∀ (j : Nat) b, j < k → (mask P)[j]? = some b → b = true) (fun i _ => N - (intOf i).toNat)
      case atStart => exact ⟨0, Nat.zero_le _, rfl, J, fun j b h => by omega⟩
      case round =>
        obtain ⟨k, hk, rfl, Jr, hall⟩ := hrel
        have hB4 := Jr.bel
        have HA := Lib.hid hall
        clear hall J hB3 hz n0 n1
        by_cases hlt : k < N
        · have s0 := Jr.cell hlt
          obtain ⟨x, hx⟩ : ∃ x, (mask P).getD k false = x := ⟨_, rfl⟩
          rw [hx] at s0
          have hg : (mask P)[k]? = some x := by rw [← hx, List.getD_eq_getElem?_getD, List.getElem?_eq_getElem (by omega)]; rfl
          have HG := Lib.hid hg
          have k0 : (0 : Int) ≤ (k : Int) := by omega
          have k1 : (k : Int) < (N : Int) := by omega
          clear hx hg
          cases x
          · go_wp2_with fail
            go_ret
            refine RetB.mk ⟨(fun h => by cases h), (fun h => ?_)⟩ (by rw [hB]; exact hB4)
            have := HFU.out.1 h false (List.mem_of_getElem? HG.out)
            cases this
          · go_wp2_with fail
            go_roundw
            case rel =>
              refine ⟨k + 1, by omega, by go_num, Jr, fun j b hj hb => ?_⟩
              by_cases e : j = k
              · subst e
                exact (Option.some.inj (HG.out.symm.trans hb)).symm
              · exact HA.out j b (by omega) hb
            case measure => simp [intOf]; omega
        · obtain rfl : k = N := by omega
          go_wp2_with fail
          go_ret
          refine RetB.mk ⟨fun _ => HFU.out.2 fun b hb => ?_, fun _ => rfl⟩ (by rw [hB]; exact hB4)
          obtain ⟨i, hi, rfl⟩ := List.mem_iff_getElem.1 hb
          exact HA.out i _ (by omega) (List.getElem?_eq_getElem hi)
end Go.Proofs.YtbkfenhiaedlgaaDoor
