/- IsFlow: the model's. -/
import Derived.Test.YthifflekbdeafaaNetH1
import Derived.StillTailTactics
namespace Go.Proofs.Ythifflekbdeafaa
open Go.RowKit

/-- Two bools. -/
def RetBB (w : World) (p q : Prop) (e : Ending) (w' : World) : Prop := e = .returned (.tuple #[.bool (dc p), .bool (dc q)]) ∧ Below w.heap.size w w'
theorem RetBB.mk {w w' : World} {p q : Prop} {a b : Bool} (ha : a = true ↔ p) (hb : b = true ↔ q) (h : Below w.heap.size w w') : RetBB w p q (.returned (.tuple #[.bool a, .bool b])) w' := by
  have e1 : a = dc p := by cases a with | false => exact (dc_false fun hp => by cases ha.2 hp).symm | true => exact (dc_true (ha.1 rfl)).symm
  have e2 : b = dc q := by cases b with | false => exact (dc_false fun hp => by cases hb.2 hp).symm | true => exact (dc_true (hb.1 rfl)).symm
  exact ⟨by rw [e1, e2], h⟩
theorem made_ints2 (m : Nat) : (madeCells (Value.int .i64 0).cells (m * 1)).toList = ints (List.replicate m 0) := by
  rw [show (Value.int .i64 0).cells = #[.int .i64 0] from rfl, toList_madeCells_one]; simp [ints]
theorem ints_setF (l : List Int) (k : Nat) (x : Int) : ints (l.set k x) = (ints l).set k (.int .i64 x) := by simp [ints, List.map_set]
/-- The memory of IsFlow: the net's box at block B, a list of numbers at block g. -/
structure FL (B g : Nat) (w0 wr : World) (N : Int) (A : Option Addr) (n c m : Nat) (f : List Int) : Prop where
  bel : Below B w0 wr
  box : Nx B wr N A n c
  gb : B < g
  own : wr.ownsRow (B + 1) 3 1 (.slice (some ⟨g, 0, none⟩) m m) m (ints f)
theorem FL.len {B g : Nat} {w0 wr : World} {N : Int} {A : Option Addr} {n c m : Nat} {f : List Int} (h : FL B g w0 wr N A n c m f) : f.length = m := by
  have := h.own.1; rw [ints_len] at this; omega
theorem FL.keep {B g : Nat} {w0 wr w' : World} {N : Int} {A : Option Addr} {n c m : Nat} {f : List Int} (h : FL B g w0 wr N A n c m f) (hb : Below wr.heap.size wr w') : FL B g w0 w' N A n c m f :=
  ⟨h.bel.trans (hb.mono (Nat.le_of_lt h.box.lt)), h.box.next hb, h.gb, own_keep h.own hb⟩
theorem FL.cell {B g : Nat} {w0 wr : World} {N : Int} {A : Option Addr} {n c m : Nat} {f : List Int} (h : FL B g w0 wr N A n c m f) {k : Nat} (hk : k < m) : wr.cell? ⟨g, k, none⟩ = some (.int .i64 (f.getD k 0)) := by
  have hl := h.len
  rw [h.own.cellAt k (by omega)]
  simp [ints, List.getD, List.getElem?_eq_getElem (show k < f.length by omega)]
theorem FL.set {B g : Nat} {w0 wr : World} {N : Int} {A : Option Addr} {n c m : Nat} {f : List Int} (h : FL B g w0 wr N A n c m f) (k : Nat) (x : Int) : FL B g w0 (wr.setCell ⟨g, k, none⟩ (.int .i64 x)) N A n c m (f.set k x) := by
  have hs := h.own.stored k (.int .i64 x)
  have hgb := h.gb
  refine ⟨h.bel.setCell (p := ⟨g, k, none⟩) (Nat.le_of_lt hgb) _, h.box.far hs.2 (by simp [Value.ownBlock]; omega), hgb, ?_⟩
  rw [ints_setF]
  exact hs.1

set_option maxRecDepth 100000 in
set_option maxHeartbeats 4000000 in
theorem specFlow_any (N : Int) (A : Option Addr) (n c : Nat) (L : List Wi) (Ac : Option Addr) (nc cc : Nat) (cs : List Int) (w : World) (hl : L.length = n) (hlc : cs.length = nc) (hn : n ≤ 1048576) (hnc : nc ≤ 1048576) (hL : WisAt w w.heap.size A L) (hC : IntsAt w w.heap.size Ac cs) :
    Calls Try.prog 16 #[.agg #[.int .i64 N, .slice A n c], .slice Ac nc cc] w (RetBB w (Asked N L cs ∧ IsFl N.toNat (L.zip cs)) (Asked N L cs)) := by
  subst hl
  subst hlc
  obtain ⟨W1, hW1⟩ : ∃ W1, W1 = w.alloc (.cells #[.int .i64 N, .slice A L.length c] 31) := ⟨_, rfl⟩
  have q1 : Nx w.heap.size W1 N A L.length c := by rw [hW1]; exact Nx.start _ _ _ _ _ _
  have hB1 : Below w.heap.size w W1 := by rw [hW1]; exact (Below.refl _ _).alloc (Nat.le_refl _) _
  obtain ⟨B, hBB⟩ : ∃ B, w.heap.size = B := ⟨_, rfl⟩
  rw [hBB] at q1 hL hC hB1
  by_cases hA : Asked N L cs
  · obtain ⟨m, rfl⟩ := Int.eq_ofNat_of_zero_le (show 0 ≤ N by have := hA.1.1; omega)
    have hm : 2 ≤ m ∧ m ≤ 12 := by have := hA.1.1; omega
    have hok := hA.1.2.2.1
    have hcb := hA.2.2
    have hlen := hA.2.1
    have h30 := hA.1.2.1.2
    have hzl : (L.zip cs).length = L.length := by rw [List.length_zip]; omega
    have hne : ∀ p ∈ L.zip cs, p.1.a.toNat ≠ p.1.b.toNat := fun p hp => by
      have := hok p.1 (List.of_mem_zip hp).1
      unfold WOk at this
      omega
    have hbd := flowF_bd (C := 1000000) (N := m) (by decide) hne (fun p hp => hcb p.2 (List.of_mem_zip hp).2)
    have HBD := Lib.hid hbd
    have HOK := Lib.hid hok
    have HCB := Lib.hid hcb
    have HLE := Lib.hid hlen
    have HZL := Lib.hid hzl
    have HA := Lib.hid hA
    obtain ⟨i0, hi, hz0, hz1, hz2⟩ := info_parts infoInt
    clear hlen hzl
    go_enter Try.func16, Try.ntmps16
    go_wp2_with fail
    rw [← hW1]
    clear hW1
    refine (callB_yes (neAsked_any _ A _ c L Ac _ cc cs _ rfl rfl hn hnc ((hL.below hB1).mono (Nat.le_of_lt q1.lt)) ((hC.below hB1).mono (Nat.le_of_lt q1.lt))) hA).mono ?_
    rintro e w2 ⟨rfl, hb2⟩
    have q2 := q1.next hb2
    have hB2 := hB1.trans (hb2.mono (Nat.le_of_lt q1.lt))
    obtain ⟨hz, n0, n1⟩ := id q2
    clear q1 hb2 hB1 hA hbd hne hok hcb
    go_wp2_with (at_make; refine wpList_make_full _ rfl _ _ 25 rfl (B + 1) 3 i0 (.int .i64 0) 1 Try.underlying25 hi hz0 hz1 .i64 .i64 m m m rfl rfl rfl rfl (by rw [hz2]; omega) (by unfold maxLen; omega) hz ?_; intro w3 hown hgrow; have n0 := hgrow.cell n0 (by simp); have n1 := hgrow.cell n1 (by simp))
    rw [made_ints2] at hown
    obtain ⟨g, hg⟩ : ∃ g, w2.heap.size = g := ⟨_, rfl⟩
    rw [hg] at hown ⊢
    have Z3 : FL B g w w3 m A L.length c m (flowF m ((L.zip cs).take 0)) := ⟨hB2.grown hgrow (Nat.le_of_lt hz) (fun k hk => by cases hk), q2.far hgrow (by simp), by rw [← hg]; exact hz, by simpa [flowF] using hown⟩
    clear hown hgrow q2 hB2 hz hg hi hz0 hz1 hz2 n0 n1
    obtain ⟨hz, n0, n1⟩ := id Z3.box
    go_wp2_with fail
    go_loopw [21] (fun i wr => ∃ k : Nat, k ≤ L.length ∧ i = .int .i64 k ∧ FL B g w wr m A L.length c m (flowF m ((L.zip cs).take k))) (fun i _ => L.length - (intOf i).toNat)
    case atStart => exact ⟨0, Nat.zero_le _, rfl, Z3⟩
    case round =>
      obtain ⟨k, hk, rfl, Zr⟩ := hrel
      clear Z3 hz n0 n1
      obtain ⟨hz, n0, n1⟩ := id Zr.box
      by_cases hlt : k < L.length
      · obtain ⟨s, hs⟩ : ∃ s, L[k]? = some s := ⟨_, List.getElem?_eq_getElem hlt⟩
        obtain ⟨b, off, rfl, hbb, c0, c1⟩ := (hL.below Zr.bel) k s hs
        obtain ⟨z, hz0⟩ : ∃ z, cs[k]? = some z := ⟨_, List.getElem?_eq_getElem (by rw [HLE.out]; exact hlt)⟩
        obtain ⟨b', off', rfl, hb', d0⟩ := (hC.below Zr.bel) k z hz0
        have hso := HOK.out s (List.mem_of_getElem? hs)
        have hzb := HCB.out z (List.mem_of_getElem? hz0)
        have hsw := flowF_succ m (L.zip cs) k (s, z) (zip_get _ _ _ _ _ hs hz0)
        have hbf := HBD.out k (by rw [HZL.out]; exact hk)
        have hbf2 := HBD.out (k + 1) (by rw [HZL.out]; exact hlt)
        obtain ⟨a, b0⟩ := s
        obtain ⟨p, rfl⟩ := Int.eq_ofNat_of_zero_le hso.2.1
        obtain ⟨q, rfl⟩ := Int.eq_ofNat_of_zero_le hso.2.2.2.1
        have hpq : p ≠ q := fun e => hso.1 (by simp [e])
        have hpN : p < m := by have := hso.2.2.1; simp at this; omega
        have hqN : q < m := by have := hso.2.2.2.2; simp at this; omega
        obtain ⟨f, hf⟩ : ∃ f, flowF m ((L.zip cs).take k) = f := ⟨_, rfl⟩
        rw [hf] at Zr hsw hbf
        have hflen := Zr.len
        obtain ⟨x, hx⟩ : ∃ x, f.getD p 0 = x := ⟨_, rfl⟩
        obtain ⟨y, hy⟩ : ∃ y, f.getD q 0 = y := ⟨_, rfl⟩
        have hxb := hbf p
        have hyb := hbf q
        rw [hx] at hxb
        rw [hy] at hyb
        have hq2 : (f.set p (x - z)).getD q 0 = y := by rw [getD_setI, if_neg (fun h => hpq h.1), hy]
        have hfs : flS f (⟨p, q⟩, z) = (f.set p (x - z)).set q (y + z) := by
          unfold flS
          simp only [Int.toNat_natCast]
          rw [hx, hq2]
        rw [hfs] at hsw
        have HSW := Lib.hid hsw
        have HX := Lib.hid hx
        have HY := Lib.hid hy
        have HQ2 := Lib.hid hq2
        have k0 : (0 : Int) ≤ (k : Int) := by omega
        have k1 : (k : Int) < (L.length : Int) := by omega
        have k2 : (k : Int) < (cs.length : Int) := by rw [HLE.out]; exact k1
        have p0 : (0 : Int) ≤ (p : Int) := by omega
        have p1 : (p : Int) < (m : Int) := by omega
        have q0 : (0 : Int) ≤ (q : Int) := by omega
        have q1 : (q : Int) < (m : Int) := by omega
        have hk30 : k ≤ 30 := by omega
        have hw1 : IntKind.i64.wrap (x - z) = x - z := IntWalk.i64_in _ (by omega)
        have hw2 : IntKind.i64.wrap (y + z) = y + z := IntWalk.i64_in _ (by omega)
        have hxz : -40000000 ≤ x - z ∧ x - z ≤ 40000000 := by omega
        have hyz : -40000000 ≤ y + z ∧ y + z ≤ 40000000 := by omega
        clear hso hs hz0 hsw hf hx hy hbf hbf2 hfs hq2 hL hC
        go_wp2_with fail
        obtain ⟨W5, hW5⟩ : ∃ W5, W5 = wr.alloc (.cells #[.int .i64 p, .int .i64 q] 72) := ⟨_, rfl⟩
        have hb5 : Below wr.heap.size wr W5 := by rw [hW5]; exact (Below.refl _ _).alloc (Nat.le_refl _) _
        have hz5 : wr.heap.size < W5.heap.size := by rw [hW5]; simp
        have v0 : W5.cell? ⟨wr.heap.size, 0, none⟩ = some (.int .i64 p) := by rw [hW5]; simp
        have v1 : W5.cell? ⟨wr.heap.size, 1, none⟩ = some (.int .i64 q) := by rw [hW5]; simp
        have Z5 := Zr.keep hb5
        have d5 := (hb5.cell (p := ⟨b', off' + k, none⟩) (Nat.lt_trans hb' hz)).trans d0
        have hgV : g < wr.heap.size := (own_lt Zr.own).2
        rw [← hW5]
        obtain ⟨V, hV⟩ : ∃ V, wr.heap.size = V := ⟨_, rfl⟩
        rw [hV] at hz5 v0 v1 hgV ⊢
        have hV1 : ¬ V = g := by omega
        have hV2 : ¬ g = V := by omega
        have hbg : ¬ b' = g := by have := Z5.gb; omega
        have hgb' : ¬ g = b' := fun e => hbg e.symm
        clear hW5 hb5 Zr n0 n1 d0 c0 c1 hV
        have s0 := Z5.cell hpN
        rw [HX.out] at s0
        have t0 := Z5.own.frozenAt p
        have s1 := Z5.cell hqN
        rw [HY.out] at s1
        have t1 := Z5.own.frozenAt q
        have hpq2 : ¬ p = q := hpq
        have hqp : ¬ q = p := fun e => hpq e.symm
        go_still_tail 11, (by kernel_rfl)
        change wpList _ _ _ _ _ W5.drew
        obtain ⟨W6, hW6⟩ : ∃ W6, W6 = W5.drew := ⟨_, rfl⟩
        have hb6 : Below W5.heap.size W5 W6 := by rw [hW6]; exact (Below.refl _ _).drew
        rw [← hW6]
        clear hW6
        have Z6 := Z5.keep hb6
        have v1 := (hb6.cell (p := ⟨V, 1, none⟩) hz5).trans v1
        have hbW : b' < W5.heap.size := by have := Z5.gb; omega
        have d6 := (hb6.cell (p := ⟨b', off' + k, none⟩) hbW).trans d5
        have s0 := Z6.cell hpN
        rw [HX.out] at s0
        have t0 := Z6.own.frozenAt p
        have hz6 := Nat.lt_of_lt_of_le hz5 hb6.size
        clear Z5 hb6 v0 d5 s1 t1 hz5
        go_wp2_with fail
        obtain ⟨W7, hW7⟩ : ∃ W7, W7 = W6.setCell ⟨g, p, none⟩ (.int .i64 (x - z)) := ⟨_, rfl⟩
        have Z7 : FL B g w W7 m (some ⟨b, off, none⟩) L.length c m (f.set p (x - z)) := by rw [hW7]; exact Z6.set p (x - z)
        have v1' : W7.cell? ⟨V, 1, none⟩ = some (.int .i64 q) := by rw [hW7]; simp [go_sem, v1, hV1]
        have d7 : W7.cell? ⟨b', off' + k, none⟩ = some (.int .i64 z) := by rw [hW7]; simp [go_sem, d6, hbg]
        rw [← hW7]
        clear hW7 Z6 v1 d6 s0 t0
        have s1 := Z7.cell hqN
        rw [HQ2.out] at s1
        have t1 := Z7.own.frozenAt q
        go_still_tail 11, (by kernel_rfl)
        change wpList _ _ _ _ _ W7.drew
        obtain ⟨W8, hW8⟩ : ∃ W8, W8 = W7.drew := ⟨_, rfl⟩
        have hb8 : Below W7.heap.size W7 W8 := by rw [hW8]; exact (Below.refl _ _).drew
        rw [← hW8]
        clear hW8
        have Z8 := Z7.keep hb8
        have s1 := Z8.cell hqN
        rw [HQ2.out] at s1
        have t1 := Z8.own.frozenAt q
        have Z9 := Lib.hid (Z8.set q (y + z))
        clear Z7 hb8 v1' d7 Z8
        go_wp2_with fail
        go_roundw
        case rel => exact ⟨k + 1, by omega, by go_num, by rw [HSW.out]; exact Z9.out⟩
        case measure => simp [intOf]; omega
      · obtain rfl : k = L.length := by omega
        rw [List.take_of_length_le (by rw [HZL.out]; exact Nat.le_refl _)] at Zr
        obtain ⟨f, hf⟩ : ∃ f, flowF m (L.zip cs) = f := ⟨_, rfl⟩
        rw [hf] at Zr
        have HF := Lib.hid hf
        have hflen := Zr.len
        clear hf hL hC
        have hm1 : (1 : Int) ≤ (m : Int) - 1 := by omega
        have hm2 : (m : Int) - 1 ≤ (m : Int) := by omega
        go_wp2_with fail
        go_loopw [55] (fun i wr => ∃ k : Nat, k ≤ m - 2 ∧ i = .int .i64 k ∧ FL B g w wr m A L.length c m f ∧ ∀ j, 1 ≤ j → j < k + 1 → f.getD j 0 = 0) (fun i _ => m - (intOf i).toNat)
        case atStart => exact ⟨0, Nat.zero_le _, rfl, Zr, fun j h1 h2 => by omega⟩
        case round =>
          obtain ⟨k, hk2, rfl, Zq, hall⟩ := hrel
          have HALL := Lib.hid hall
          clear hall Zr hz n0 n1
          by_cases hlt : k < m - 2
          · have s0 := Zq.cell (k := 1 + k) (by omega)
            obtain ⟨x, hx⟩ : ∃ x, f.getD (1 + k) 0 = x := ⟨_, rfl⟩
            rw [hx] at s0
            have HX := Lib.hid hx
            have k0 : (0 : Int) ≤ (k : Int) := by omega
            have k1 : (k : Int) < (m : Int) - 1 - 1 := by omega
            clear hx
            by_cases hx0 : x = 0
            · subst hx0
              go_wp2_with fail
              go_roundw
              case rel =>
                refine ⟨k + 1, by omega, by go_num, Zq, fun j h1 h2 => ?_⟩
                by_cases e : j = 1 + k
                · subst e; exact HX.out
                · exact HALL.out j h1 (by omega)
              case measure => simp [intOf]; omega
            · have HNO : Hid (¬ IsFl m (L.zip cs)) := Lib.hid fun h => hx0 (by
                have := h (1 + k) (by omega) (by omega)
                rw [HF.out, HX.out] at this
                exact this)
              have hB := Zq.bel
              go_wp2_with fail
              go_ret2
              exact RetBB.mk ⟨(fun h => by cases h), fun h => absurd h.2 (by simpa using HNO.out)⟩ ⟨fun _ => HA.out, fun _ => rfl⟩ (by rw [hBB]; exact hB)
          · obtain rfl : k = m - 2 := by omega
            have k1 : ¬ ((m - 2 : Nat) : Int) < (m : Int) - 1 - 1 := by omega
            have k2 : ¬ ((m - 2 : Nat) : Int) < ((m - 1 - 1 : Nat) : Int) := by omega
            have HYES : Hid (IsFl m (L.zip cs)) := Lib.hid fun j h1 h2 => by
              rw [HF.out]
              exact HALL.out j h1 (by omega)
            have hB := Zq.bel
            go_wp2_with fail
            go_ret2
            exact RetBB.mk ⟨fun _ => ⟨HA.out, by simpa using HYES.out⟩, fun _ => rfl⟩ ⟨fun _ => HA.out, fun _ => rfl⟩ (by rw [hBB]; exact hB)
  · have HNO := Lib.hid hA
    go_enter Try.func16, Try.ntmps16
    go_wp2_with fail
    rw [← hW1]
    clear hW1
    refine (callB_no (neAsked_any N A _ c L Ac _ cc cs _ rfl rfl hn hnc ((hL.below hB1).mono (Nat.le_of_lt q1.lt)) ((hC.below hB1).mono (Nat.le_of_lt q1.lt))) hA).mono ?_
    rintro e w2 ⟨rfl, hb2⟩
    have hB2 := hB1.trans (hb2.mono (Nat.le_of_lt q1.lt))
    clear hA
    go_wp2_with fail
    go_ret2
    exact RetBB.mk ⟨(fun h => by cases h), fun h => absurd h.1 HNO.out⟩ ⟨(fun h => by cases h), fun h => absurd h HNO.out⟩ (by rw [hBB]; exact hB2)

end Go.Proofs.Ythifflekbdeafaa
