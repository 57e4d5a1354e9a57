/- TakePart of the model. -/
import Derived.Test.YtilneimiedfjnaaTakeG
import Derived.Test.YtilneimiedfjnaaTwo
set_option linter.all false
namespace Go.Proofs.Ytilneimiedfjnaa
open Go.RowKit

theorem l1Least_any (a b : Int) (w : World) : Calls Try.prog 54 #[.int .i64 a, .int .i64 b] w fun e w' => e = .returned (.int .i64 (min a b)) ∧ w = w' := by
  by_cases h : a < b
  · have d : decide (a < b) = true := decide_eq_true h
    go_enter Try.func54, Try.ntmps54
    go_wp2
    all_goals (go_ret; exact ⟨ret_int (by omega), rfl⟩)
  · have d : decide (a < b) = false := decide_eq_false h
    go_enter Try.func54, Try.ntmps54
    go_wp2
    all_goals (go_ret; exact ⟨ret_int (by omega), rfl⟩)
theorem l1Most_any (a b : Int) (w : World) : Calls Try.prog 55 #[.int .i64 a, .int .i64 b] w fun e w' => e = .returned (.int .i64 (max a b)) ∧ w = w' := by
  by_cases h : b < a
  · have d : decide (b < a) = true := decide_eq_true h
    go_enter Try.func55, Try.ntmps55
    go_wp2
    all_goals (go_ret; exact ⟨ret_int (by omega), rfl⟩)
  · have d : decide (b < a) = false := decide_eq_false h
    go_enter Try.func55, Try.ntmps55
    go_wp2
    all_goals (go_ret; exact ⟨ret_int (by omega), rfl⟩)
set_option maxRecDepth 100000 in
set_option maxHeartbeats 4000000 in
theorem l1Rising_any (A' : Option Addr) (n' c' : Nat) (K : List Int) (lo hi : Int) (w : World) (hl : K.length = n') (hn : n' ≤ 1048576) (hK : IntsAt w w.heap.size A' K) :
    Calls Try.prog 53 #[.slice A' n' c', .int .i64 lo, .int .i64 hi] w (RetB w (J.RisS K lo hi K.length)) := by
  subst hl
  go_enter Try.func53, Try.ntmps53
  go_wp2_with fail
  go_loopw [11] (fun i wr => ∃ j : Nat, j ≤ K.length ∧ i = .int .i64 j ∧ Below w.heap.size w wr ∧ J.RisS K lo hi j) (fun i _ => K.length - (intOf i).toNat)
  case atStart => exact ⟨0, Nat.zero_le _, rfl, Below.refl _ _, fun i z h => by omega⟩
  case round =>
    obtain ⟨j, hj, rfl, hbr, hR⟩ := hrel
    by_cases hlt : j < K.length
    · obtain ⟨z, hz⟩ : ∃ z, K[j]? = some z := ⟨_, List.getElem?_eq_getElem hlt⟩
      obtain ⟨kb, ko, rfl, kl, kc⟩ := hK j z hz
      have kc' : wr.cell? ⟨kb, ko + j, none⟩ = some (.int .i64 z) := (hbr.cell (p := ⟨kb, _, none⟩) kl).trans kc
      have jz : (0 : Int) ≤ (j : Int) := by omega
      have jl : (j : Int) < (K.length : Int) := by omega
      have HZ := Lib.hid hz
      have HR := Lib.hid hR
      have bad : ∀ w', Below w.heap.size w w' → (¬ (lo ≤ z ∧ z ≤ hi) ∨ ∃ y, 0 < j ∧ K[j - 1]? = some y ∧ ¬ y < z) → RetB w (J.RisS K lo hi K.length) (.returned (.bool false)) w' := fun w' hb h => RetB.mk (by
        simp only [Bool.false_eq_true, false_iff]
        intro k
        have := k j z hlt HZ.out
        rcases h with h | ⟨y, h0, hy, h⟩
        · exact h this.1
        · exact h (this.2 y h0 hy)) hb
      have good : (lo ≤ z ∧ z ≤ hi) → (∀ y, 0 < j → K[j - 1]? = some y → y < z) → J.RisS K lo hi (j + 1) := fun h1 h2 i y hi' hy => by
        by_cases e : i = j
        · subst e; rw [HZ.out] at hy; cases hy; exact ⟨h1, h2⟩
        · exact HR.out i y (by omega) hy
      have HBad := Lib.hid bad
      have HGood := Lib.hid good
      clear bad good hz kc hR
      by_cases h1 : lo ≤ z ∧ z ≤ hi
      · have d1 := Lib.hid (inB_iff.2 h1)
        cases j with
        | zero =>
          have dz : decide ((0 : Int) < ((0 : Nat) : Int)) = false := by decide
          rw [Nat.add_zero] at kc'
          clear hK
          go_wp2_with fail
          refine (l1In_any _ _ _ wr).mono ?_
          rw [d1.out]
          rintro e w1 ⟨rfl, rfl⟩
          go_wp2_with fail
          go_roundw
          case rel => exact ⟨1, by omega, by go_num, hbr, HGood.out h1 (fun y h => by omega)⟩
          case measure => simp [intOf]; omega
        | succ i =>
          obtain ⟨y, hy⟩ : ∃ y, K[i]? = some y := ⟨_, List.getElem?_eq_getElem (by omega)⟩
          obtain ⟨kb', ko', he, kl', kd⟩ := hK i y hy
          cases he
          have kd' : wr.cell? ⟨kb, ko + i, none⟩ = some (.int .i64 y) := (hbr.cell (p := ⟨kb, _, none⟩) kl).trans kd
          have HY := Lib.hid hy
          have iz : (0 : Int) ≤ (i : Int) := by omega
          have il : (i : Int) < (K.length : Int) := by omega
          have dz : decide ((0 : Int) < ((i + 1 : Nat) : Int)) = true := decide_eq_true (by omega)
          have ws : IntKind.i64.wrap (((i + 1 : Nat) : Int) - 1) = (i : Int) := by rw [IntWalk.i64_in _ (by omega)]; omega
          clear hK hy kd
          by_cases h2 : z ≤ y
          · have d2 : decide (z ≤ y) = true := decide_eq_true h2
            go_wp2_with fail
            refine (l1In_any _ _ _ wr).mono ?_
            rw [d1.out]
            rintro e w1 ⟨rfl, rfl⟩
            go_wp2_with fail
            go_ret
            exact HBad.out _ hbr (.inr ⟨y, by omega, by simpa using HY.out, by omega⟩)
          · have d2 : decide (z ≤ y) = false := decide_eq_false h2
            go_wp2_with fail
            refine (l1In_any _ _ _ wr).mono ?_
            rw [d1.out]
            rintro e w1 ⟨rfl, rfl⟩
            go_wp2_with fail
            go_roundw
            case rel => exact ⟨i + 1 + 1, by omega, by go_num, hbr, HGood.out h1 (fun x _ hx => by
              have hx' : K[i]? = some x := by simpa using hx
              rw [HY.out] at hx'; cases hx'; omega)⟩
            case measure => simp [intOf]; omega
      · have d1 : Hid (inB z lo hi = false) := by
          show inB z lo hi = false
          rw [← Bool.not_eq_true, inB_iff]; exact h1
        clear hK
        go_wp2_with fail
        refine (l1In_any _ _ _ wr).mono ?_
        rw [d1.out]
        rintro e w1 ⟨rfl, rfl⟩
        go_wp2_with fail
        go_ret
        exact HBad.out _ hbr (.inl h1)
    · obtain rfl : j = K.length := by omega
      clear hK
      go_wp2_with fail
      go_ret
      exact RetB.mk (by simpa using hR) hbr

set_option maxRecDepth 100000 in
set_option maxHeartbeats 16000000 in
theorem specTake_any (W H : Int) (A : Option Addr) (n c : Nat) (L : List Sq) (A' : Option Addr) (n' c' : Nat) (K : List Int) (w : World) (hl : L.length = n) (hl' : K.length = n') (hc : n ≤ c) (hn' : n' ≤ 1048576) (hL : SqsAt w w.heap.size A L) (hK : IntsAt w w.heap.size A' K) :
    Calls Try.prog 16 #[.agg #[.int .i64 W, .int .i64 H, .slice A n c], .slice A' n' c'] w (RetT w (tpT W H L K)) := by
  subst hl
  subst hl'
  by_cases hG : Good W H L
  · by_cases hz : K.length = 0
    · have ba := (Bx.start w W H A L.length c 29).next ((Below.refl _ _).alloc (Nat.le_refl _) (.cells #[.int .i64 0, .int .i64 0, .slice none 0 0] 29))
      have br : Bx (w.heap.size + 1) ((w.alloc (.cells #[.int .i64 W, .int .i64 H, .slice A L.length c] 29)).alloc (.cells #[.int .i64 0, .int .i64 0, .slice none 0 0] 29)) 0 0 none 0 0 := by simpa using Bx.start (w.alloc (.cells #[.int .i64 W, .int .i64 H, .slice A L.length c] 29)) 0 0 none 0 0 29
      have hf : ∀ o, (((w.alloc (.cells #[.int .i64 W, .int .i64 H, .slice A L.length c] 29)).alloc (.cells #[.int .i64 0, .int .i64 0, .slice none 0 0] 29))).frozen? ⟨w.heap.size + 1, o, none⟩ = false := fun o => World.frozen?_alloc_at _ _ _ _ (by simp)
      have HB : Below w.heap.size w ((w.alloc (.cells #[.int .i64 W, .int .i64 H, .slice A L.length c] 29)).alloc (.cells #[.int .i64 0, .int .i64 0, .slice none 0 0] 29)) := ((Below.refl _ _).alloc (Nat.le_refl _) _).alloc (by simp) _
      obtain ⟨W1, hW1⟩ : ∃ W1, W1 = ((w.alloc (.cells #[.int .i64 W, .int .i64 H, .slice A L.length c] 29)).alloc (.cells #[.int .i64 0, .int .i64 0, .slice none 0 0] 29)) := ⟨_, rfl⟩
      have hs_0 : w.heap.size + 2 = W1.heap.size := by rw [hW1]; simp
      rw [← hW1] at ba br hf HB
      obtain ⟨al, a0, a1, a2⟩ := id ba
      go_enter Try.func16, Try.ntmps16
      go_wp2_with fail
      rw [← hW1]
      clear hW1
      refine (callB_yes (cuGood_any W H A _ c L W1 rfl hc ((hL.below HB).mono HB.size)) hG).mono ?_
      rintro e w2 ⟨rfl, hb⟩
      clear al a0 a1 a2
      replace hf := fun o => (hb.frozen (p := ⟨w.heap.size + 1, o, none⟩) (by show w.heap.size + 1 < _; omega)).trans (hf o)
      have hs_1 := hb.size
      replace HB := HB.trans (hb.mono HB.size)
      replace ba := ba.next hb
      replace br := br.next hb
      clear hb
      obtain ⟨rl, r0, r1, r2⟩ := id br
      have t0 := hf 0
      have t1 := hf 1
      have t2 := hf 2
      have HN := Lib.hid (tpT_no (W := W) (H := H) (L := L) (K := K) (fun k => by have := k.2.1; omega))
      go_wp2_with fail
      rw [HN.out]
      have e1 := ((HB.setCell (p := ⟨w.heap.size + 1, 0, none⟩) (by simp) (.int .i64 0)).setCell (p := ⟨w.heap.size + 1, 1, none⟩) (by simp) (.int .i64 0)).setCell (p := ⟨w.heap.size + 1, 2, none⟩) (by simp) (.slice none 0 0)
      refine bodyPost_ret (v := .tuple #[.agg #[.int .i64 0, .int .i64 0, .slice none 0 0], .bool false]) (by simp [results, Try.results16, go_sem, r0, r1, r2]) rfl ?_
      exact RetT.no e1
    · replace hz : 0 < K.length := by omega
      by_cases hrs : J.RisS K 0 ((L.length : Int) - 1) K.length
      · have ba := (Bx.start w W H A L.length c 29).next ((Below.refl _ _).alloc (Nat.le_refl _) (.cells #[.int .i64 0, .int .i64 0, .slice none 0 0] 29))
        have br : Bx (w.heap.size + 1) ((w.alloc (.cells #[.int .i64 W, .int .i64 H, .slice A L.length c] 29)).alloc (.cells #[.int .i64 0, .int .i64 0, .slice none 0 0] 29)) 0 0 none 0 0 := by simpa using Bx.start (w.alloc (.cells #[.int .i64 W, .int .i64 H, .slice A L.length c] 29)) 0 0 none 0 0 29
        have hf : ∀ o, (((w.alloc (.cells #[.int .i64 W, .int .i64 H, .slice A L.length c] 29)).alloc (.cells #[.int .i64 0, .int .i64 0, .slice none 0 0] 29))).frozen? ⟨w.heap.size + 1, o, none⟩ = false := fun o => World.frozen?_alloc_at _ _ _ _ (by simp)
        have HB : Below w.heap.size w ((w.alloc (.cells #[.int .i64 W, .int .i64 H, .slice A L.length c] 29)).alloc (.cells #[.int .i64 0, .int .i64 0, .slice none 0 0] 29)) := ((Below.refl _ _).alloc (Nat.le_refl _) _).alloc (by simp) _
        obtain ⟨W1, hW1⟩ : ∃ W1, W1 = ((w.alloc (.cells #[.int .i64 W, .int .i64 H, .slice A L.length c] 29)).alloc (.cells #[.int .i64 0, .int .i64 0, .slice none 0 0] 29)) := ⟨_, rfl⟩
        have hs_0 : w.heap.size + 2 = W1.heap.size := by rw [hW1]; simp
        rw [← hW1] at ba br hf HB
        obtain ⟨al, a0, a1, a2⟩ := id ba
        go_enter Try.func16, Try.ntmps16
        go_wp2_with fail
        rw [← hW1]
        clear hW1
        refine (callB_yes (cuGood_any W H A _ c L W1 rfl hc ((hL.below HB).mono HB.size)) hG).mono ?_
        rintro e w2 ⟨rfl, hb⟩
        clear al a0 a1 a2
        replace hf := fun o => (hb.frozen (p := ⟨w.heap.size + 1, o, none⟩) (by show w.heap.size + 1 < _; omega)).trans (hf o)
        have hs_1 := hb.size
        replace HB := HB.trans (hb.mono HB.size)
        replace ba := ba.next hb
        replace br := br.next hb
        clear hb
        obtain ⟨al, a0, a1, a2⟩ := id ba
        have hd0 : (K.length == 0) = false := by rw [beq_eq_false_iff_ne]; omega
        have hdI : ((K.length : Int) == 0) = false := by rw [beq_eq_false_iff_ne]; omega
        have hn := hG.2.2.1
        have wl : IntKind.i64.wrap ((L.length : Int) - 1) = (L.length : Int) - 1 := IntWalk.i64_in _ (by omega)
        go_wp2_with fail
        clear al a0 a1 a2
        refine (callB_yes (l1Rising_any A' K.length c' K 0 ((L.length : Int) - 1) w2 rfl hn' ((hK.below HB).mono HB.size)) hrs).mono ?_
        rintro e w3 ⟨rfl, hb⟩
        replace hf := fun o => (hb.frozen (p := ⟨w.heap.size + 1, o, none⟩) (by show w.heap.size + 1 < _; omega)).trans (hf o)
        have hs_2 := hb.size
        replace HB := HB.trans (hb.mono HB.size)
        replace ba := ba.next hb
        replace br := br.next hb
        clear hb
        have hR := J.ris_iff.1 hrs
        obtain ⟨i0, hi, hz0, hz1, hz2⟩ := info_parts infoSq
        have hmem := J.sel_mem hR
        have hlP : (J.selL L K).length = K.length := J.selL_len L K
        have HTP := Lib.hid ((tpT_yes hG hz hR).trans (tpM_model hG hz hR).symm)
        have HAT := Lib.hid (fun j (hj : j < K.length) => J.sel_at hR hj)
        obtain ⟨P, hP⟩ : ∃ P, J.selL L K = P := ⟨_, rfl⟩
        rw [hP] at hmem hlP HTP HAT
        have hsm : ∀ s ∈ P, (0 ≤ s.x ∧ s.x ≤ 500) ∧ (0 ≤ s.y ∧ s.y ≤ 500) ∧ (1 ≤ s.d ∧ s.d ≤ 500) := fun s hs => by have h1 := (good_fill hG).within s (hmem s hs); have h2 := hG.1; have h3 := hG.2.1; unfold Within at h1; omega
        have HLP := Lib.hid hlP
        obtain ⟨q, f, k1, k2, k3⟩ := HAT.out 0 hz
        have hhd : hdS P = f := by cases P with
          | nil => simp at k3
          | cons a r => simp at k3; exact k3
        rw [hhd] at HTP
        have hfs := hsm f (List.mem_of_getElem? k3)
        obtain ⟨kb, ko, rfl, kl, kc⟩ := hK 0 q k1
        obtain ⟨b, off, rfl, hbb, c0, c1, c2⟩ := hL q f k2
        have ql : q < L.length := (List.getElem?_eq_some_iff.1 k2).1
        have kc' : w3.cell? ⟨kb, ko, none⟩ = some (.int .i64 q) := (HB.cell (p := ⟨kb, _, none⟩) kl).trans (by simpa using kc)
        have c0' : w3.cell? ⟨b, off + q * 3, none⟩ = some (.int .i64 f.x) := (HB.cell (p := ⟨b, _, none⟩) hbb).trans c0
        have c1' : w3.cell? ⟨b, off + q * 3 + 1, none⟩ = some (.int .i64 f.y) := (HB.cell (p := ⟨b, _, none⟩) hbb).trans c1
        have c2' : w3.cell? ⟨b, off + q * 3 + 2, none⟩ = some (.int .i64 f.d) := (HB.cell (p := ⟨b, _, none⟩) hbb).trans c2
        have qz : (0 : Int) ≤ (q : Int) := by omega
        have qlI : (q : Int) < (L.length : Int) := by omega
        have Kz : (0 : Int) < (K.length : Int) := by omega
        have hkb : kb < w3.heap.size := by omega
        have hbb3 : b < w3.heap.size := by omega
        have hN3 : w.heap.size < w3.heap.size := by omega
        clear hP hhd hmem hlP k1 k2 k3 kc c0 c1 c2 hR
        obtain ⟨al, a0, a1, a2⟩ := id ba
        go_wp2_with fail
        go_region
        go_wp2_with fail
        go_region
        go_wp2_with fail
        clear al a0 a1 a2
        obtain ⟨w4, hw4⟩ : ∃ w4, w4 = (w3.alloc (.cells #[.int .i64 f.x, .int .i64 f.y, .int .i64 f.d] 65)).drew.drew := ⟨_, rfl⟩
        have hb : Below w3.heap.size w3 w4 := by rw [hw4]; exact (((Below.refl _ _).alloc (Nat.le_refl _) _).drew).drew
        rw [← hw4]
        clear hw4 kc' c0' c1' c2' hkb hbb3 hN3
        replace hf := fun o => (hb.frozen (p := ⟨w.heap.size + 1, o, none⟩) (by show w.heap.size + 1 < _; omega)).trans (hf o)
        have hs_3 := hb.size
        replace HB := HB.trans (hb.mono HB.size)
        replace ba := ba.next hb
        replace br := br.next hb
        clear hb
        obtain ⟨al, a0, a1, a2⟩ := id ba
        obtain ⟨rl, r0, r1, r2⟩ := id br
        have t0 := hf 0
        have t1 := hf 1
        have t2 := hf 2
        have hs4 : w.heap.size + 2 ≤ w4.heap.size := by omega
        go_loopw [7, 8, 9, 10, 49] (fun x y a b i wr => ∃ j : Nat, j ≤ K.length ∧ i = .int .i64 j ∧ x = .int .i64 (J.mnF (·.x) f.x (P.take j)) ∧ y = .int .i64 (J.mnF (·.y) f.y (P.take j)) ∧ a = .int .i64 (J.mxF (fun s => s.x + s.d) (P.take j)) ∧ b = .int .i64 (J.mxF (fun s => s.y + s.d) (P.take j)) ∧ Below w4.heap.size w4 wr) (fun _ _ _ _ i _ => K.length - (intOf i).toNat)
        case atStart => exact ⟨0, Nat.zero_le _, rfl, by simp [J.mnF], by simp [J.mnF], by simp [J.mxF], by simp [J.mxF], Below.refl _ _⟩
        case round =>
          obtain ⟨j, hj, rfl, rfl, rfl, rfl, rfl, hbr⟩ := hrel
          have HBr := HB.trans (hbr.mono HB.size)
          have a2' := (hbr.cell (p := ⟨w.heap.size, 2, none⟩) al).trans a2
          have hsr := hbr.size
          by_cases hlt : j < K.length
          · obtain ⟨z, s, k1, k2, k3⟩ := HAT.out j hlt
            obtain ⟨kb', ko', he, kl', kc⟩ := hK j z k1
            cases he
            obtain ⟨b', off', he, hbb', c0, c1, c2⟩ := hL z s k2
            cases he
            have zl : z < L.length := (List.getElem?_eq_some_iff.1 k2).1
            have kc' : wr.cell? ⟨kb, ko + j, none⟩ = some (.int .i64 z) := (HBr.cell (p := ⟨kb, _, none⟩) kl).trans kc
            have c0' : wr.cell? ⟨b, off + z * 3, none⟩ = some (.int .i64 s.x) := (HBr.cell (p := ⟨b, _, none⟩) hbb).trans c0
            have c1' : wr.cell? ⟨b, off + z * 3 + 1, none⟩ = some (.int .i64 s.y) := (HBr.cell (p := ⟨b, _, none⟩) hbb).trans c1
            have c2' : wr.cell? ⟨b, off + z * 3 + 2, none⟩ = some (.int .i64 s.d) := (HBr.cell (p := ⟨b, _, none⟩) hbb).trans c2
            have hss := hsm s (List.mem_of_getElem? k3)
            have jz : (0 : Int) ≤ (j : Int) := by omega
            have jl : (j : Int) < (K.length : Int) := by omega
            have zz : (0 : Int) ≤ (z : Int) := by omega
            have zlI : (z : Int) < (L.length : Int) := by omega
            have wx : IntKind.i64.wrap (s.x + s.d) = s.x + s.d := IntWalk.i64_in _ (by omega)
            have wy : IntKind.i64.wrap (s.y + s.d) = s.y + s.d := IntWalk.i64_in _ (by omega)
            have H1 := Lib.hid (J.mnF_take_succ (·.x) f.x P j s k3)
            have H2 := Lib.hid (J.mnF_take_succ (·.y) f.y P j s k3)
            have H3 := Lib.hid (J.mxF_take_succ (fun s => s.x + s.d) P j s k3)
            have H4 := Lib.hid (J.mxF_take_succ (fun s => s.y + s.d) P j s k3)
            obtain ⟨e1, h1⟩ : ∃ e, J.mnF (·.x) f.x (P.take j) = e := ⟨_, rfl⟩
            obtain ⟨e2, h2⟩ : ∃ e, J.mnF (·.y) f.y (P.take j) = e := ⟨_, rfl⟩
            obtain ⟨e3, h3⟩ : ∃ e, J.mxF (fun s => s.x + s.d) (P.take j) = e := ⟨_, rfl⟩
            obtain ⟨e4, h4⟩ : ∃ e, J.mxF (fun s => s.y + s.d) (P.take j) = e := ⟨_, rfl⟩
            rw [h1, h2, h3, h4]
            have G1 := Lib.hid h1
            have G2 := Lib.hid h2
            have G3 := Lib.hid h3
            have G4 := Lib.hid h4
            clear k1 k2 k3 kc c0 c1 c2 h1 h2 h3 h4 hL hK hsm r0 r1 r2 t0 t1 t2 a0 a1 a2
            go_wp2_with fail
            refine (l1Least_any _ _ _).mono ?_
            rintro e u ⟨rfl, rfl⟩
            go_wp2_with fail
            refine (l1Least_any _ _ _).mono ?_
            rintro e u ⟨rfl, rfl⟩
            go_wp2_with fail
            refine (l1Most_any _ _ _).mono ?_
            rintro e u ⟨rfl, rfl⟩
            go_wp2_with fail
            refine (l1Most_any _ _ _).mono ?_
            rintro e u ⟨rfl, rfl⟩
            go_wp2_with fail
            go_roundw
            case rel => exact ⟨j + 1, by omega, by go_num, by rw [H1.out, G1.out], by rw [H2.out, G2.out], by rw [H3.out, G3.out], by rw [H4.out, G4.out], hbr.alloc hsr _⟩
            case measure => simp [intOf]; omega
          · obtain rfl : j = K.length := by omega
            rw [List.take_of_length_le (by rw [HLP.out]; exact Nat.le_refl _)]
            have hlP := HLP.out
            have n1 := J.mnF_le (·.x) P f.x
            have n2 := J.mnF_le (·.y) P f.y
            have m1 := J.mxF_bound (fun s => s.x + s.d) P 1000 (by decide) (fun t ht => by have := hsm t ht; omega)
            have m2 := J.mxF_bound (fun s => s.y + s.d) P 1000 (by decide) (fun t ht => by have := hsm t ht; omega)
            obtain ⟨e1, h1⟩ : ∃ e, J.mnF (·.x) f.x P = e := ⟨_, rfl⟩
            obtain ⟨e2, h2⟩ : ∃ e, J.mnF (·.y) f.y P = e := ⟨_, rfl⟩
            obtain ⟨e3, h3⟩ : ∃ e, J.mxF (fun s => s.x + s.d) P = e := ⟨_, rfl⟩
            obtain ⟨e4, h4⟩ : ∃ e, J.mxF (fun s => s.y + s.d) P = e := ⟨_, rfl⟩
            have htp := HTP.out
            rw [h1, h2, h3, h4] at htp
            rw [h1] at n1 ⊢
            rw [h2] at n2 ⊢
            rw [h3] at m1 ⊢
            rw [h4] at m2 ⊢
            have b1 : 0 ≤ e1 ∧ e1 ≤ 500 := by
              refine ⟨?_, by have := n1.1; omega⟩
              rcases n1.2.2 with h | ⟨t, ht, h⟩
              · omega
              · have := hsm t ht; omega
            have b2 : 0 ≤ e2 ∧ e2 ≤ 500 := by
              refine ⟨?_, by have := n2.1; omega⟩
              rcases n2.2.2 with h | ⟨t, ht, h⟩
              · omega
              · have := hsm t ht; omega
            have w1 : IntKind.i64.wrap (e3 - e1) = e3 - e1 := IntWalk.i64_in _ (by omega)
            have w2' : IntKind.i64.wrap (e4 - e2) = e4 - e2 := IntWalk.i64_in _ (by omega)
            have HT2 := Lib.hid htp
            have r0' := (hbr.cell (p := ⟨w.heap.size + 1, 0, none⟩) rl).trans r0
            have r1' := (hbr.cell (p := ⟨w.heap.size + 1, 1, none⟩) rl).trans r1
            have r2' := (hbr.cell (p := ⟨w.heap.size + 1, 2, none⟩) rl).trans r2
            have t0' := (hbr.frozen (p := ⟨w.heap.size + 1, 0, none⟩) rl).trans t0
            have t1' := (hbr.frozen (p := ⟨w.heap.size + 1, 1, none⟩) rl).trans t1
            have t2' := (hbr.frozen (p := ⟨w.heap.size + 1, 2, none⟩) rl).trans t2
            have hs5 : w.heap.size + 2 ≤ wr.heap.size := by omega
            clear n1 n2 h1 h2 h3 h4 htp r0 r1 r2 t0 t1 t2 a0 a1 a2 m1 m2 hlP
            obtain ⟨w5, hw5⟩ : ∃ w5, w5 = wr := ⟨_, rfl⟩
            rw [← hw5] at HBr a2' r0' r1' r2' t0' t1' t2' hs5 ⊢
            clear hw5 hbr hsr wr
            go_wp2_with fail
            go_loopw [14, 83] (fun v i wi => ∃ j : Nat, j ≤ K.length ∧ i = .int .i64 j ∧ Below (w.heap.size + 2) w5 wi ∧ w.heap.size + 2 ≤ wi.heap.size ∧ wi.ownsRow (w.heap.size + 2) 65 3 v j (flat (J.mvL (-e1) (-e2) (P.take j)))) (fun _ i _ => K.length - (intOf i).toNat)
            case atStart => exact ⟨0, Nat.zero_le _, rfl, Below.refl _ _, hs5, by simp [J.mvL, flat]; exact World.ownsRow_nil _ _ _ _⟩
            case round =>
              obtain ⟨j, hj, rfl, hbi, hzi, hown⟩ := hrel
              have HBi := HBr.trans (hbi.mono (by omega))
              have a2'' := (hbi.cell (p := ⟨w.heap.size, 2, none⟩) (by show w.heap.size < _; omega)).trans a2'
              by_cases hlt : j < K.length
              · obtain ⟨z, s, k1, k2, k3⟩ := HAT.out j hlt
                obtain ⟨kb', ko', he, kl', kc⟩ := hK j z k1
                cases he
                obtain ⟨b', off', he, hbb', c0, c1, c2⟩ := hL z s k2
                cases he
                have zl : z < L.length := (List.getElem?_eq_some_iff.1 k2).1
                have kc' : wr.cell? ⟨kb, ko + j, none⟩ = some (.int .i64 z) := (HBi.cell (p := ⟨kb, _, none⟩) kl).trans kc
                have c0' : wr.cell? ⟨b, off + z * 3, none⟩ = some (.int .i64 s.x) := (HBi.cell (p := ⟨b, _, none⟩) hbb).trans c0
                have c1' : wr.cell? ⟨b, off + z * 3 + 1, none⟩ = some (.int .i64 s.y) := (HBi.cell (p := ⟨b, _, none⟩) hbb).trans c1
                have c2' : wr.cell? ⟨b, off + z * 3 + 2, none⟩ = some (.int .i64 s.d) := (HBi.cell (p := ⟨b, _, none⟩) hbb).trans c2
                have hss := hsm s (List.mem_of_getElem? k3)
                have jz : (0 : Int) ≤ (j : Int) := by omega
                have jl : (j : Int) < (K.length : Int) := by omega
                have zz : (0 : Int) ≤ (z : Int) := by omega
                have zlI : (z : Int) < (L.length : Int) := by omega
                have wx : IntKind.i64.wrap (s.x - e1) = s.x - e1 := IntWalk.i64_in _ (by omega)
                have wy : IntKind.i64.wrap (s.y - e2) = s.y - e2 := IntWalk.i64_in _ (by omega)
                have hfl : flat (J.mvL (-e1) (-e2) (P.take j)) ++ [.int .i64 (s.x - e1), .int .i64 (s.y - e2), .int .i64 s.d] = flat (J.mvL (-e1) (-e2) (P.take (j + 1))) := (flat_map_succ (J.mvS (-e1) (-e2)) P j s k3).symm
                have HF := Lib.hid hfl
                have hbl : j + 1 ≤ maxLen := by unfold maxLen; omega
                have hby : (j + 1) * 24 ≤ 140737488355328 := by omega
                obtain ⟨A3, c3, rfl⟩ := own_val hown
                clear k1 k2 k3 kc c0 c1 c2 hL hK hsm r0' r1' r2' t0' t1' t2' a2' hfl
                go_wp2_with (at_builtin; refine app_list rfl _ _ _ rfl (w.heap.size + 2) 65 i0 (.agg #[.int .i64 0, .int .i64 0, .int .i64 0]) 3 24 Try.underlying27 hi hz0 hz1 hz2 rfl (by decide) (.slice A3 j c3) j _ rfl ((hown.alloc _).alloc _) (some ⟨wr.heap.size + 1, 0, none⟩) 1 1 [.int .i64 (s.x - e1), .int .i64 (s.y - e2), .int .i64 s.d] rfl rfl (.inr ⟨_, rfl, new3' _ _ _ _ _ _⟩) (one3 _ _ _) hbl hby (by simp; omega) ?_; intro v' w6 hown6 hgrow hv6)
                have hb6 : Below (w.heap.size + 2) w5 w6 := ((hbi.alloc hzi _).alloc (by simp; omega) _).grown hgrow (by simp; omega) (fun kk e => (hown.lt kk e).1)
                have hz6 := hgrow.size
                simp at hz6
                go_roundw
                case rel => exact ⟨j + 1, by omega, by go_num, hb6, by omega, by rw [← HF.out]; exact hown6⟩
                case measure => simp [intOf]; omega
              · obtain rfl : j = K.length := by omega
                rw [List.take_of_length_le (by rw [HLP.out]; exact Nat.le_refl _)] at hown
                obtain ⟨A6, c6, rfl⟩ := own_val hown
                have hlQ : (J.mvL (-e1) (-e2) P).length = K.length := by rw [J.mvL_len]; exact HLP.out
                have CO := cuMake_any (e3 - e1) (e4 - e2) A6 K.length c6 (J.mvL (-e1) (-e2) P) wr hlQ hn' (sqs_of_own hown)
                have u0 := (hbi.cell (p := ⟨w.heap.size + 1, 0, none⟩) (by show w.heap.size + 1 < _; omega)).trans r0'
                have u1 := (hbi.cell (p := ⟨w.heap.size + 1, 1, none⟩) (by show w.heap.size + 1 < _; omega)).trans r1'
                have u2 := (hbi.cell (p := ⟨w.heap.size + 1, 2, none⟩) (by show w.heap.size + 1 < _; omega)).trans r2'
                have v0 := (hbi.frozen (p := ⟨w.heap.size + 1, 0, none⟩) (by show w.heap.size + 1 < _; omega)).trans t0'
                have v1 := (hbi.frozen (p := ⟨w.heap.size + 1, 1, none⟩) (by show w.heap.size + 1 < _; omega)).trans t1'
                have v2 := (hbi.frozen (p := ⟨w.heap.size + 1, 2, none⟩) (by show w.heap.size + 1 < _; omega)).trans t2'
                clear r0' r1' r2' t0' t1' t2' a2' a2'' hL hK hlQ
                go_wp2_with fail
                refine CO.mono ?_
                rintro e w9 hret
                have hret : RetT wr (Mk (e3 - e1) (e4 - e2) (J.mvL (-e1) (-e2) P)) e w9 := hret
                obtain ⟨Z, hZ⟩ : ∃ Z, Mk (e3 - e1) (e4 - e2) (J.mvL (-e1) (-e2) P) = Z := ⟨_, rfl⟩
                rw [hZ] at hret
                have HZ := Lib.hid (HT2.out.trans hZ)
                clear hZ CO
                obtain ⟨A9, c9, rfl, o9, hb9⟩ := hret
                have o9 := own_base (base' := w.heap.size + 2) o9 (by omega)
                have HB := HBi.trans (hb9.mono HBi.size)
                have r0 := (hb9.cell (p := ⟨w.heap.size + 1, 0, none⟩) (by show w.heap.size + 1 < _; omega)).trans u0
                have r1 := (hb9.cell (p := ⟨w.heap.size + 1, 1, none⟩) (by show w.heap.size + 1 < _; omega)).trans u1
                have r2 := (hb9.cell (p := ⟨w.heap.size + 1, 2, none⟩) (by show w.heap.size + 1 < _; omega)).trans u2
                have t0 := (hb9.frozen (p := ⟨w.heap.size + 1, 0, none⟩) (by show w.heap.size + 1 < _; omega)).trans v0
                have t1 := (hb9.frozen (p := ⟨w.heap.size + 1, 1, none⟩) (by show w.heap.size + 1 < _; omega)).trans v1
                have t2 := (hb9.frozen (p := ⟨w.heap.size + 1, 2, none⟩) (by show w.heap.size + 1 < _; omega)).trans v2
                clear u0 u1 u2 v0 v1 v2
                go_wp2_with fail
                have e1 := ((HB.setCell (p := ⟨w.heap.size + 1, 0, none⟩) (by simp) (.int .i64 Z.1)).setCell (p := ⟨w.heap.size + 1, 1, none⟩) (by simp) (.int .i64 Z.2.1)).setCell (p := ⟨w.heap.size + 1, 2, none⟩) (by simp) (.slice A9 Z.2.2.1.length c9)
                have e2 := own_base (base' := w.heap.size) (ownsRow_setCell_below (ownsRow_setCell_below (ownsRow_setCell_below o9 (a := ⟨w.heap.size + 1, 0, none⟩) (by first | omega | (simp; done) | (simp; omega)) (.int .i64 Z.1)) (a := ⟨w.heap.size + 1, 1, none⟩) (by first | omega | (simp; done) | (simp; omega)) (.int .i64 Z.2.1)) (a := ⟨w.heap.size + 1, 2, none⟩) (by first | omega | (simp; done) | (simp; omega)) (.slice A9 Z.2.2.1.length c9)) (by omega)
                rw [HZ.out]
                refine bodyPost_ret (v := .tuple #[.agg #[.int .i64 Z.1, .int .i64 Z.2.1, .slice A9 Z.2.2.1.length c9], .bool Z.2.2.2]) (by simp [results, Try.results16, go_sem, r0, r1, r2]) rfl ?_
                exact ⟨A9, c9, rfl, e2, e1⟩
      · have ba := (Bx.start w W H A L.length c 29).next ((Below.refl _ _).alloc (Nat.le_refl _) (.cells #[.int .i64 0, .int .i64 0, .slice none 0 0] 29))
        have br : Bx (w.heap.size + 1) ((w.alloc (.cells #[.int .i64 W, .int .i64 H, .slice A L.length c] 29)).alloc (.cells #[.int .i64 0, .int .i64 0, .slice none 0 0] 29)) 0 0 none 0 0 := by simpa using Bx.start (w.alloc (.cells #[.int .i64 W, .int .i64 H, .slice A L.length c] 29)) 0 0 none 0 0 29
        have hf : ∀ o, (((w.alloc (.cells #[.int .i64 W, .int .i64 H, .slice A L.length c] 29)).alloc (.cells #[.int .i64 0, .int .i64 0, .slice none 0 0] 29))).frozen? ⟨w.heap.size + 1, o, none⟩ = false := fun o => World.frozen?_alloc_at _ _ _ _ (by simp)
        have HB : Below w.heap.size w ((w.alloc (.cells #[.int .i64 W, .int .i64 H, .slice A L.length c] 29)).alloc (.cells #[.int .i64 0, .int .i64 0, .slice none 0 0] 29)) := ((Below.refl _ _).alloc (Nat.le_refl _) _).alloc (by simp) _
        obtain ⟨W1, hW1⟩ : ∃ W1, W1 = ((w.alloc (.cells #[.int .i64 W, .int .i64 H, .slice A L.length c] 29)).alloc (.cells #[.int .i64 0, .int .i64 0, .slice none 0 0] 29)) := ⟨_, rfl⟩
        have hs_0 : w.heap.size + 2 = W1.heap.size := by rw [hW1]; simp
        rw [← hW1] at ba br hf HB
        obtain ⟨al, a0, a1, a2⟩ := id ba
        go_enter Try.func16, Try.ntmps16
        go_wp2_with fail
        rw [← hW1]
        clear hW1
        refine (callB_yes (cuGood_any W H A _ c L W1 rfl hc ((hL.below HB).mono HB.size)) hG).mono ?_
        rintro e w2 ⟨rfl, hb⟩
        clear al a0 a1 a2
        replace hf := fun o => (hb.frozen (p := ⟨w.heap.size + 1, o, none⟩) (by show w.heap.size + 1 < _; omega)).trans (hf o)
        have hs_1 := hb.size
        replace HB := HB.trans (hb.mono HB.size)
        replace ba := ba.next hb
        replace br := br.next hb
        clear hb
        obtain ⟨al, a0, a1, a2⟩ := id ba
        have hd0 : (K.length == 0) = false := by rw [beq_eq_false_iff_ne]; omega
        have hdI : ((K.length : Int) == 0) = false := by rw [beq_eq_false_iff_ne]; omega
        have hn := hG.2.2.1
        have wl : IntKind.i64.wrap ((L.length : Int) - 1) = (L.length : Int) - 1 := IntWalk.i64_in _ (by omega)
        go_wp2_with fail
        clear al a0 a1 a2
        refine (callB_no (l1Rising_any A' K.length c' K 0 ((L.length : Int) - 1) w2 rfl hn' ((hK.below HB).mono HB.size)) hrs).mono ?_
        rintro e w3 ⟨rfl, hb⟩
        replace hf := fun o => (hb.frozen (p := ⟨w.heap.size + 1, o, none⟩) (by show w.heap.size + 1 < _; omega)).trans (hf o)
        have hs_2 := hb.size
        replace HB := HB.trans (hb.mono HB.size)
        replace ba := ba.next hb
        replace br := br.next hb
        clear hb
        obtain ⟨rl, r0, r1, r2⟩ := id br
        have t0 := hf 0
        have t1 := hf 1
        have t2 := hf 2
        have HN := Lib.hid (tpT_no (W := W) (H := H) (L := L) (K := K) (fun k => hrs (J.ris_iff.2 k.2.2)))
        go_wp2_with fail
        rw [HN.out]
        have e1 := ((HB.setCell (p := ⟨w.heap.size + 1, 0, none⟩) (by simp) (.int .i64 0)).setCell (p := ⟨w.heap.size + 1, 1, none⟩) (by simp) (.int .i64 0)).setCell (p := ⟨w.heap.size + 1, 2, none⟩) (by simp) (.slice none 0 0)
        refine bodyPost_ret (v := .tuple #[.agg #[.int .i64 0, .int .i64 0, .slice none 0 0], .bool false]) (by simp [results, Try.results16, go_sem, r0, r1, r2]) rfl ?_
        exact RetT.no e1
  · have ba := (Bx.start w W H A L.length c 29).next ((Below.refl _ _).alloc (Nat.le_refl _) (.cells #[.int .i64 0, .int .i64 0, .slice none 0 0] 29))
    have br : Bx (w.heap.size + 1) ((w.alloc (.cells #[.int .i64 W, .int .i64 H, .slice A L.length c] 29)).alloc (.cells #[.int .i64 0, .int .i64 0, .slice none 0 0] 29)) 0 0 none 0 0 := by simpa using Bx.start (w.alloc (.cells #[.int .i64 W, .int .i64 H, .slice A L.length c] 29)) 0 0 none 0 0 29
    have hf : ∀ o, (((w.alloc (.cells #[.int .i64 W, .int .i64 H, .slice A L.length c] 29)).alloc (.cells #[.int .i64 0, .int .i64 0, .slice none 0 0] 29))).frozen? ⟨w.heap.size + 1, o, none⟩ = false := fun o => World.frozen?_alloc_at _ _ _ _ (by simp)
    have HB : Below w.heap.size w ((w.alloc (.cells #[.int .i64 W, .int .i64 H, .slice A L.length c] 29)).alloc (.cells #[.int .i64 0, .int .i64 0, .slice none 0 0] 29)) := ((Below.refl _ _).alloc (Nat.le_refl _) _).alloc (by simp) _
    obtain ⟨W1, hW1⟩ : ∃ W1, W1 = ((w.alloc (.cells #[.int .i64 W, .int .i64 H, .slice A L.length c] 29)).alloc (.cells #[.int .i64 0, .int .i64 0, .slice none 0 0] 29)) := ⟨_, rfl⟩
    have hs_0 : w.heap.size + 2 = W1.heap.size := by rw [hW1]; simp
    rw [← hW1] at ba br hf HB
    obtain ⟨al, a0, a1, a2⟩ := id ba
    go_enter Try.func16, Try.ntmps16
    go_wp2_with fail
    rw [← hW1]
    clear hW1
    refine (callB_no (cuGood_any W H A _ c L W1 rfl hc ((hL.below HB).mono HB.size)) hG).mono ?_
    rintro e w2 ⟨rfl, hb⟩
    clear al a0 a1 a2
    replace hf := fun o => (hb.frozen (p := ⟨w.heap.size + 1, o, none⟩) (by show w.heap.size + 1 < _; omega)).trans (hf o)
    have hs_1 := hb.size
    replace HB := HB.trans (hb.mono HB.size)
    replace ba := ba.next hb
    replace br := br.next hb
    clear hb
    obtain ⟨rl, r0, r1, r2⟩ := id br
    have t0 := hf 0
    have t1 := hf 1
    have t2 := hf 2
    go_wp2_with fail
    rw [tpT_no (fun k => hG k.1)]
    have e1 := ((HB.setCell (p := ⟨w.heap.size + 1, 0, none⟩) (by simp) (.int .i64 0)).setCell (p := ⟨w.heap.size + 1, 1, none⟩) (by simp) (.int .i64 0)).setCell (p := ⟨w.heap.size + 1, 2, none⟩) (by simp) (.slice none 0 0)
    refine bodyPost_ret (v := .tuple #[.agg #[.int .i64 0, .int .i64 0, .slice none 0 0], .bool false]) (by simp [results, Try.results16, go_sem, r0, r1, r2]) rfl ?_
    exact RetT.no e1
end Go.Proofs.Ytilneimiedfjnaa
