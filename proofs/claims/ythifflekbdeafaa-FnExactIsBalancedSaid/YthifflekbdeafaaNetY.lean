/- IsBalanced: the model's. -/
import Derived.Test.YthifflekbdeafaaNetX
import Derived.Test.YthifflekbdeafaaNetJ
import Derived.StillTailTactics
import Derived.Deep.DeepCutAuto
namespace Go.Proofs.Ythifflekbdeafaa
open Go.RowKit

/-- The memory of the model's IsBalanced: the net's box at block B, what is seen at block gj, the potentials at block gp. -/
structure JB (B gj gp : Nat) (w0 wr : World) (N : Nat) (A : Option Addr) (n c : Nat) (mk : List Bool) (f : List Int) : Prop where
  bel : Below B w0 wr
  box : Nx B wr N A n c
  bj : B < gj
  bp : B < gp
  ne : gj ≠ gp
  jo : wr.ownsRow (B + 1) 4 1 (.slice (some ⟨gj, 0, none⟩) N N) N (bools mk)
  po : wr.ownsRow (B + 1) 3 1 (.slice (some ⟨gp, 0, none⟩) N N) N (ints f)
theorem JB.lenJ {B gj gp : Nat} {w0 wr : World} {N : Nat} {A : Option Addr} {n c : Nat} {mk : List Bool} {f : List Int} (h : JB B gj gp w0 wr N A n c mk f) : mk.length = N := by
  have := h.jo.1; rw [bools_len] at this; omega
theorem JB.lenP {B gj gp : Nat} {w0 wr : World} {N : Nat} {A : Option Addr} {n c : Nat} {mk : List Bool} {f : List Int} (h : JB B gj gp w0 wr N A n c mk f) : f.length = N := by
  have := h.po.1; rw [ints_len] at this; omega
theorem JB.keep {B gj gp : Nat} {w0 wr : World} {N : Nat} {A : Option Addr} {n c : Nat} {mk : List Bool} {f : List Int} {w' : World} (h : JB B gj gp w0 wr N A n c mk f) (hb : Below wr.heap.size wr w') : JB B gj gp w0 w' N A n c mk f :=
  ⟨h.bel.trans (hb.mono (Nat.le_of_lt h.box.lt)), h.box.next hb, h.bj, h.bp, h.ne, own_keep h.jo hb, own_keep h.po hb⟩
theorem JB.jcell {B gj gp : Nat} {w0 wr : World} {N : Nat} {A : Option Addr} {n c : Nat} {mk : List Bool} {f : List Int} (h : JB B gj gp w0 wr N A n c mk f) {k : Nat} (hk : k < N) : wr.cell? ⟨gj, k, none⟩ = some (.bool (mk.getD k false)) := by
  have hl := h.lenJ
  rw [h.jo.cellAt k (by omega)]
  simp [bools, List.getElem?_eq_getElem (show k < mk.length by omega)]
theorem JB.pcell {B gj gp : Nat} {w0 wr : World} {N : Nat} {A : Option Addr} {n c : Nat} {mk : List Bool} {f : List Int} (h : JB B gj gp w0 wr N A n c mk f) {k : Nat} (hk : k < N) : wr.cell? ⟨gp, k, none⟩ = some (.int .i64 (f.getD k 0)) := by
  have hl := h.lenP
  rw [h.po.cellAt k (by omega)]
  simp [ints, List.getD, List.getElem?_eq_getElem (show k < f.length by omega)]
theorem JB.setJ {B gj gp : Nat} {w0 wr : World} {N : Nat} {A : Option Addr} {n c : Nat} {mk : List Bool} {f : List Int} (h : JB B gj gp w0 wr N A n c mk f) (k : Nat) : JB B gj gp w0 (wr.setCell ⟨gj, k, none⟩ (.bool true)) N A n c (mk.set k true) f := by
  have hs := h.jo.stored k (.bool true)
  have h1 := h.bj
  have h2 := h.ne
  refine ⟨h.bel.setCell (p := ⟨gj, k, none⟩) (Nat.le_of_lt h1) _, h.box.far hs.2 (by simp [Value.ownBlock]; omega), h1, h.bp, h2, ?_, own_far h.po hs.2 (fun j hj he => by simp [Value.ownBlock] at hj he; omega)⟩
  rw [bools_set]
  exact hs.1
theorem JB.setP {B gj gp : Nat} {w0 wr : World} {N : Nat} {A : Option Addr} {n c : Nat} {mk : List Bool} {f : List Int} (h : JB B gj gp w0 wr N A n c mk f) (k : Nat) (x : Int) : JB B gj gp w0 (wr.setCell ⟨gp, k, none⟩ (.int .i64 x)) N A n c mk (f.set k x) := by
  have hs := h.po.stored k (.int .i64 x)
  have h1 := h.bp
  have h2 := h.ne
  refine ⟨h.bel.setCell (p := ⟨gp, k, none⟩) (Nat.le_of_lt h1) _, h.box.far hs.2 (by simp [Value.ownBlock]; omega), h.bj, h1, h2, own_far h.jo hs.2 (fun j hj he => by simp [Value.ownBlock] at hj he; omega), ?_⟩
  rw [ints_setF]
  exact hs.1
theorem JB.madeJP {B : Nat} {w w2 wJ wP : World} {m : Nat} {A : Option Addr} {n c gj gp : Nat} (hB : Below B w w2) (q : Nx B w2 m A n c) (hgJ : w2.grownBy wJ none) (hgP : wJ.grownBy wP none)
    (hoJ : wJ.ownsRow (B + 1) 4 1 (.slice (some ⟨gj, 0, none⟩) m m) m (bools (List.replicate m false))) (hoP : wP.ownsRow (B + 1) 3 1 (.slice (some ⟨gp, 0, none⟩) m m) m (ints (List.replicate m 0))) (hne : wJ.heap.size ≤ gp) :
    JB B gj gp w wP m A n c (List.replicate m false) (List.replicate m 0) := by
  have a := own_lt hoJ
  have b := own_lt hoP
  exact ⟨(hB.grown hgJ (Nat.le_of_lt q.lt) (fun k hk => by cases hk)).grown hgP (Nat.le_trans (Nat.le_of_lt q.lt) hgJ.size) (fun k hk => by cases hk), (q.far hgJ (by simp)).far hgP (by simp), by omega, by omega, by omega, own_far hoJ hgP (fun k _ => by simp), hoP⟩
theorem JB.madePJ {B : Nat} {w w2 wJ wP : World} {m : Nat} {A : Option Addr} {n c gj gp : Nat} (hB : Below B w w2) (q : Nx B w2 m A n c) (hgP : w2.grownBy wP none) (hgJ : wP.grownBy wJ none)
    (hoJ : wJ.ownsRow (B + 1) 4 1 (.slice (some ⟨gj, 0, none⟩) m m) m (bools (List.replicate m false))) (hoP : wP.ownsRow (B + 1) 3 1 (.slice (some ⟨gp, 0, none⟩) m m) m (ints (List.replicate m 0))) (hne : wP.heap.size ≤ gj) :
    JB B gj gp w wJ m A n c (List.replicate m false) (List.replicate m 0) := by
  have a := own_lt hoJ
  have b := own_lt hoP
  exact ⟨(hB.grown hgP (Nat.le_of_lt q.lt) (fun k hk => by cases hk)).grown hgJ (Nat.le_trans (Nat.le_of_lt q.lt) hgP.size) (fun k hk => by cases hk), (q.far hgP (by simp)).far hgJ (by simp), by omega, by omega, by omega, hoJ, own_far hoP hgJ (fun k _ => by simp)⟩
theorem pots_pot0 {N : Nat} (h : 1 ≤ N) : pots (pot0 N) = List.replicate N 0 := by
  obtain ⟨k, rfl⟩ : ∃ k, N = k + 1 := ⟨N - 1, by omega⟩
  unfold pots pot0
  rw [List.map_cons, List.map_replicate, List.replicate_succ]; rfl

theorem getD_bd {P : List (Option Int)} {N : Nat} (h : BdP 1000000 P) (hl : P.length = N) (hN : N ≤ 12) (k : Nat) : -12000000 ≤ (P.getD k none).getD 0 ∧ (P.getD k none).getD 0 ≤ 12000000 := by
  cases hx : P.getD k none with
  | none => simp
  | some x => exact h.get hl hN hx
set_option maxRecDepth 100000 in
set_option maxHeartbeats 8000000 in
theorem specBal_any (N : Int) (A : Option Addr) (n c : Nat) (L : List Wi) (Ac : Option Addr) (nc cc : Nat) (cs : List Int) (w : World) (hl : L.length = n) (hlc : cs.length = nc) (hn : n ≤ 1048576) (hnc : nc ≤ 1048576) (hL : WisAt w w.heap.size A L) (hC : IntsAt w w.heap.size Ac cs) :
    Calls Try.prog 22 #[.agg #[.int .i64 N, .slice A n c], .slice Ac nc cc] w (RetBB w (Asked N L cs ∧ IsBl (resS N.toNat (L.zip cs)) (L.zip cs)) (Asked N L cs)) := by
  subst hl
  subst hlc
  obtain ⟨W1, hW1⟩ : ∃ W1, W1 = w.alloc (.cells #[.int .i64 N, .slice A L.length c] 31) := ⟨_, rfl⟩
  have q1 : Nx w.heap.size W1 N A L.length c := by rw [hW1]; exact Nx.start _ _ _ _ _ _
  have hB1 : Below w.heap.size w W1 := by rw [hW1]; exact (Below.refl _ _).alloc (Nat.le_refl _) _
  obtain ⟨B, hBB⟩ : ∃ B, w.heap.size = B := ⟨_, rfl⟩
  rw [hBB] at q1 hL hC hB1
  by_cases hA : Asked N L cs
  · obtain ⟨m, rfl⟩ := Int.eq_ofNat_of_zero_le (show 0 ≤ N by have := hA.1.1; omega)
    have hm : 2 ≤ m ∧ m ≤ 12 := by have := hA.1.1; omega
    have hm1 : 1 ≤ m := by omega
    have hok := hA.1.2.2.1
    have hcb := hA.2.2
    have hlen := hA.2.1
    have h30 := hA.1.2.1.2
    have hzl : (L.zip cs).length = L.length := by rw [List.length_zip]; omega
    have hps : ∀ p ∈ L.zip cs, InP m p := fun p hp => by have := zip_in (cs := cs) hok (P := pot0 m) (pot0_len (by omega)) p hp; rwa [pot0_len (by omega)] at this
    have hpb : ∀ p ∈ L.zip cs, -1000000 ≤ p.2 ∧ p.2 ≤ 1000000 := fun p hp => hcb p.2 (List.of_mem_zip hp).2
    have hgoal : (Asked (m : Int) L cs ∧ IsBl (resS (m : Int).toNat (L.zip cs)) (L.zip cs)) = (Asked (m : Int) L cs ∧ IsBl (resS m (L.zip cs)) (L.zip cs)) := by rw [Int.toNat_natCast]
    rw [hgoal]
    have HOK := Lib.hid hok
    have HCB := Lib.hid hcb
    have HLE := Lib.hid hlen
    have HZL := Lib.hid hzl
    have HPS := Lib.hid hps
    have HPB := Lib.hid hpb
    have HA := Lib.hid hA
    obtain ⟨i0, hi, hz0, hz1, hz2⟩ := info_parts infoInt
    obtain ⟨j0, hj, hj0, hj1, hj2⟩ := info_parts infoBool
    clear hlen hzl hps hpb hgoal
    go_enter Try.func22, Try.ntmps22
    go_wp2_with fail
    rw [← hW1]
    clear hW1
    refine (callB_yes (neAsked_any _ A _ c L Ac _ cc cs _ rfl rfl hn hnc ((hL.below hB1).mono (Nat.le_of_lt q1.lt)) ((hC.below hB1).mono (Nat.le_of_lt q1.lt))) hA).mono ?_
    rintro e w2 ⟨rfl, hb2⟩
    have q2 := q1.next hb2
    have hB2 := hB1.trans (hb2.mono (Nat.le_of_lt q1.lt))
    obtain ⟨hz, n0, n1⟩ := id q2
    clear q1 hb2 hB1 hA hok hcb
    go_upto_region 3 with fail
    go_cut [6, 7] (fun s6 s7 wx => ∃ gj gp : Nat, s6 = .slice (some ⟨gj, 0, none⟩) m m ∧ s7 = .slice (some ⟨gp, 0, none⟩) m m ∧ JB B gj gp w wx m A L.length c (List.replicate m false) (List.replicate m 0))
    case first =>
      have hzd : B + 1 ≤ w2.drew.heap.size := hz
      obtain ⟨wJ, rJ, oJ, gJ⟩ := run_make_full (P := Try.prog) w2.drew (B + 1) 75 4 j0 (.bool false) 1 Try.underlying75 hj hj0 hj1 .i64 .i64 m (by rw [hj2]; omega) (by unfold maxLen; omega) hzd
      obtain ⟨wP, rP, oP, gP⟩ := run_make_full (P := Try.prog) wJ (B + 1) 25 3 i0 (.int .i64 0) 1 Try.underlying25 hi hz0 hz1 .i64 .i64 m (by rw [hz2]; omega) (by unfold maxLen; omega) (Nat.le_trans hzd gJ.size)
      obtain ⟨vP, sP, pP, uP⟩ := run_make_full (P := Try.prog) w2.drew (B + 1) 25 3 i0 (.int .i64 0) 1 Try.underlying25 hi hz0 hz1 .i64 .i64 m (by rw [hz2]; omega) (by unfold maxLen; omega) hzd
      obtain ⟨vJ, sJ, pJ, uJ⟩ := run_make_full (P := Try.prog) vP (B + 1) 75 4 j0 (.bool false) 1 Try.underlying75 hj hj0 hj1 .i64 .i64 m (by rw [hj2]; omega) (by unfold maxLen; omega) (Nat.le_trans hzd uP.size)
      have nJ := gJ.cell (a := ⟨B, 0, none⟩) n0 (by simp)
      have nP := uP.cell (a := ⟨B, 0, none⟩) n0 (by simp)
      go_region
      all_goals (go_wp2_with fail; go_meet)
      all_goals
        refine ⟨_, _, rfl, rfl, ?_⟩
        first
          | (rw [← made_bools] at oJ; rw [made_ints2] at oP; exact JB.madeJP hB2.drew (q2.next (Below.refl _ _).drew) gJ gP oJ oP (Nat.le_refl _))
          | (rw [← made_bools] at pJ; rw [made_ints2] at pP; exact JB.madePJ hB2.drew (q2.next (Below.refl _ _).drew) uP uJ pJ pP (Nat.le_refl _))
    obtain ⟨gj, gp, rfl, rfl, Z3⟩ := hcut
    have e0 := Z3.jcell (k := 0) (by omega)
    have f0 := Z3.jo.frozenAt 0
    have Z4 := Z3.setJ 0
    rw [mask_start hm1, ← pots_pot0 hm1] at Z4
    have hm0 : (0 : Int) < (m : Int) := by omega
    clear Z3 q2 hB2 hz n0 n1 hi hz0 hz1 hz2 hj hj0 hj1 hj2
    obtain ⟨hz, n0, n1⟩ := id Z4.box
    go_wp2_with fail
    clear e0 f0
    go_loopg [8] (m + 2) (fun gk v wr => ∃ j g, v = .bool g ∧ JB B gj gp w wr m A L.length c (mask (repS (L.zip cs) j (pot0 m))) (pots (repS (L.zip cs) j (pot0 m))) ∧ (g = true → j + 1 ≤ cntS (repS (L.zip cs) j (pot0 m)) ∧ j + gk = m + 2) ∧ (g = false → resS m (L.zip cs) = repS (L.zip cs) j (pot0 m)))
    case atStart => exact ⟨0, true, rfl, Z4, fun _ => ⟨by show 0 + 1 ≤ cntS (pot0 m); rw [cnt_pot0]; exact Nat.le_refl _, by omega⟩, fun h => by cases h⟩
    case round =>
      obtain ⟨j, g, rfl, J, hT, hF⟩ := hrel
      have HP : (repS (L.zip cs) j (pot0 m)).length = m := by rw [repS_len, pot0_len hm1]
      have HBD := Lib.hid (repS_bd (B := 1000000) hm1 (by decide) HPS.out HPB.out j)
      clear Z4 hz n0 n1
      cases g with
      | true =>
        obtain ⟨hc, hjk⟩ := hT rfl
        clear hF hT
        obtain ⟨P, hPe⟩ : ∃ P, repS (L.zip cs) j (pot0 m) = P := ⟨_, rfl⟩
        rw [hPe] at J hc HP HBD
        have HPE := Lib.hid hPe
        have HJK := Lib.hid hjk
        clear hPe hjk
        obtain ⟨hz, n0, n1⟩ := id J.box
        go_wp2_with fail
        go_loopw [8, 29] (fun v i wr => ∃ (k : Nat) (g : Bool), k ≤ L.length ∧ i = .int .i64 k ∧ v = .bool g ∧ JB B gj gp w wr m A L.length c (mask (sweep ((L.zip cs).take k) P)) (pots (sweep ((L.zip cs).take k) P)) ∧ cntS P ≤ cntS (sweep ((L.zip cs).take k) P) ∧ (g = true → cntS P < cntS (sweep ((L.zip cs).take k) P)) ∧ (g = false → sweep ((L.zip cs).take k) P = P)) (fun _ i _ => L.length - (intOf i).toNat)
        case atStart => exact ⟨0, false, Nat.zero_le _, rfl, rfl, J, Nat.le_refl _, (fun h => by cases h), (fun _ => rfl)⟩
        case round =>
          obtain ⟨k, g, hk, rfl, rfl, Jr, hle, hT, hF⟩ := hrel
          clear J hz n0 n1
          obtain ⟨hz, n0, n1⟩ := id Jr.box
          by_cases hlt : k < L.length
          · obtain ⟨s, hs⟩ : ∃ s, L[k]? = some s := ⟨_, List.getElem?_eq_getElem hlt⟩
            obtain ⟨b, off, rfl, hb, c0, c1⟩ := (hL.below Jr.bel) k s hs
            obtain ⟨z, hz0⟩ : ∃ z, cs[k]? = some z := ⟨_, List.getElem?_eq_getElem (by rw [HLE.out]; exact hlt)⟩
            obtain ⟨b', off', rfl, hb', d0⟩ := (hC.below Jr.bel) k z hz0
            have hso := HOK.out s (List.mem_of_getElem? hs)
            have hzb := HCB.out z (List.mem_of_getElem? hz0)
            have hsw := sweep_succ (L.zip cs) P k (s, z) (zip_get _ _ _ _ _ hs hz0)
            have hbd := sweep_bd (B := 1000000) (by decide) (ps := (L.zip cs).take k) (P := P) (fun p hp => by rw [HP]; exact HPS.out p (List.mem_of_mem_take hp)) (fun p hp => HPB.out p (List.mem_of_mem_take hp)) HBD.out
            obtain ⟨a, b0⟩ := s
            obtain ⟨p, rfl⟩ := Int.eq_ofNat_of_zero_le hso.2.1
            obtain ⟨q, rfl⟩ := Int.eq_ofNat_of_zero_le hso.2.2.2.1
            obtain ⟨Q, hQ⟩ : ∃ Q, sweep ((L.zip cs).take k) P = Q := ⟨_, rfl⟩
            rw [hQ] at Jr hle hT hF hsw hbd
            have HQP : Q.length = m := by rw [← hQ, sweep_len]; exact HP
            have hpN : p < m := by have := hso.2.2.1; simp at this; omega
            have hqN : q < m := by have := hso.2.2.2.2; simp at this; omega
            have hpq : p ≠ q := fun e => hso.1 (by simp [e])
            have hgj : gj < wr.heap.size := (own_lt Jr.jo).2
            have hgp : gp < wr.heap.size := (own_lt Jr.po).2
            have hbj : ¬ b' = gj := by have := Jr.bj; omega
            have hbp : ¬ b' = gp := by have := Jr.bp; omega
            have hjb : ¬ gj = b' := fun e => hbj e.symm
            have hpb' : ¬ gp = b' := fun e => hbp e.symm
            have hjp : ¬ gj = gp := Jr.ne
            have hpj : ¬ gp = gj := fun e => hjp e.symm
            have hpq2 : ¬ p = q := hpq
            have hqp : ¬ q = p := fun e => hpq e.symm
            have HSW := Lib.hid hsw
            have HBQ := Lib.hid hbd
            have HT := Lib.hid hT
            have HF := Lib.hid hF
            have HQ := Lib.hid hQ
            have k0 : (0 : Int) ≤ (k : Int) := by omega
            have k1 : (k : Int) < (L.length : Int) := by omega
            have k2 : (k : Int) < (cs.length : Int) := by rw [HLE.out]; exact k1
            have p0 : (0 : Int) ≤ (p : Int) := by omega
            have p1 : (p : Int) < (m : Int) := by omega
            have q0 : (0 : Int) ≤ (q : Int) := by omega
            have q1 : (q : Int) < (m : Int) := by omega
            clear hso hs hz0 hsw hbd hT hF hQ hpq
            go_upto_region 11 with fail
            obtain ⟨W5, hW5⟩ : ∃ W5, W5 = wr.alloc (.cells #[.int .i64 p, .int .i64 q] 72) := ⟨_, rfl⟩
            have hb5 : Below wr.heap.size wr W5 := by rw [hW5]; exact (Below.refl _ _).alloc (Nat.le_refl _) _
            have hz5 : wr.heap.size < W5.heap.size := by rw [hW5]; simp
            have v0 : W5.cell? ⟨wr.heap.size, 0, none⟩ = some (.int .i64 p) := by rw [hW5]; simp
            have v1 : W5.cell? ⟨wr.heap.size, 1, none⟩ = some (.int .i64 q) := by rw [hW5]; simp
            have Z5 := Jr.keep hb5
            have d5 := (hb5.cell (p := ⟨b', off' + k, none⟩) (Nat.lt_trans hb' hz)).trans d0
            rw [← hW5]
            obtain ⟨V, hV⟩ : ∃ V, wr.heap.size = V := ⟨_, rfl⟩
            rw [hV] at hz5 v0 v1 hgj hgp ⊢
            have hV1 : ¬ V = gj := by omega
            have hV2 : ¬ gj = V := by omega
            have hV3 : ¬ V = gp := by omega
            have hV4 : ¬ gp = V := by omega
            clear hW5 hb5 Jr n0 n1 d0 c0 c1 hV
            have s0 := Z5.jcell hpN
            have s1 := Z5.jcell hqN
            have t0 := Z5.pcell hpN
            have t1 := Z5.pcell hqN
            rw [mask_getD] at s0 s1
            rw [pots_get] at t0 t1
            have HXP0 := pots_get Q p
            have HYP0 := pots_get Q q
            cases hp : Q.getD p none with
            | some x =>
              rw [hp] at s0 t0 HXP0
              cases hq : Q.getD q none with
              | some y =>
                rw [hq] at s1 t1 HYP0
                simp only [Option.isSome, Option.getD] at s0 s1 t0 t1 HXP0 HYP0
                have HU := Lib.hid (upd_yy (c := z) hp hq)
                have Z6 := Lib.hid Z5
                clear Z5
                go_wp2_with fail
                go_roundw
                case rel => exact ⟨k + 1, g, by omega, by go_num, rfl, by rw [HSW.out, HU.out]; exact Z6.out, by rw [HSW.out, HU.out]; exact hle, by rw [HSW.out, HU.out]; exact HT.out, by rw [HSW.out, HU.out]; exact HF.out⟩
                case measure => simp [intOf]; omega
              | none =>
                rw [hq] at s1 t1 HYP0
                simp only [Option.isSome, Option.getD] at s0 s1 t0 t1 HXP0 HYP0
                have HU := Lib.hid (upd_yn (c := z) hp hq)
                have hcn := cnt_set (k := q) (by omega) hq (x - z)
                have HCN := Lib.hid hcn
                have hxb := HBQ.out.get HQP hm.2 hp
                have hw1 : IntKind.i64.wrap (x - z) = x - z := IntWalk.i64_in _ (by omega)
                clear hcn
                have HXP := Lib.hid HXP0
                have HYP := Lib.hid HYP0
                clear HXP0 HYP0
                have Z6 := Z5.setJ q
                have fj := Z5.jo.frozenAt q
                go_upto_region 13 with fail
                obtain ⟨W6, hW6⟩ : ∃ W6, W6 = W5.setCell ⟨gj, q, none⟩ (.bool true) := ⟨_, rfl⟩
                rw [← hW6] at Z6
                have v0' : W6.cell? ⟨V, 0, none⟩ = some (.int .i64 p) := by rw [hW6]; simp [go_sem, v0, hV1]
                have v1' : W6.cell? ⟨V, 1, none⟩ = some (.int .i64 q) := by rw [hW6]; simp [go_sem, v1, hV1]
                have d6 : W6.cell? ⟨b', off' + k, none⟩ = some (.int .i64 z) := by rw [hW6]; simp [go_sem, d5, hbj]
                have hz6' : V < W6.heap.size := by rw [hW6]; exact Nat.lt_of_lt_of_le hz5 (put_grown W5 ⟨gj, q, none⟩ (.bool true)).size
                rw [← hW6]
                clear hW6 v0 v1 d5 s0 s1 t0 t1 fj Z5
                have t0 := Z6.pcell hpN
                have t1 := Z6.pcell hqN
                rw [HXP.out] at t0
                rw [HYP.out] at t1
                have ff := Z6.po.frozenAt q
                go_still_tail 14, (by kernel_rfl)
                change wpList _ _ _ _ _ W6.drew
                obtain ⟨W7, hW7⟩ : ∃ W7, W7 = W6.drew := ⟨_, rfl⟩
                have hb7 : Below W6.heap.size W6 W7 := by rw [hW7]; exact (Below.refl _ _).drew
                rw [← hW7]
                clear hW7
                have Z7 := Z6.keep hb7
                have v0 := (hb7.cell (p := ⟨V, 0, none⟩) hz6').trans v0'
                have v1 := (hb7.cell (p := ⟨V, 1, none⟩) hz6').trans v1'
                clear Z6 hb7 v0' v1' d6 t0 t1 ff
                have t0 := Z7.pcell hpN
                have t1 := Z7.pcell hqN
                rw [HXP.out] at t0
                rw [HYP.out] at t1
                have ff := Z7.po.frozenAt q
                have s0 := Z7.jcell hpN
                have s1 := Z7.jcell hqN
                have Z8 := Lib.hid (Z7.setP q (x - z))
                clear Z7
                go_wp2_with fail
                go_roundw
                case rel => exact ⟨k + 1, true, by omega, by go_num, rfl, by rw [HSW.out, HU.out, mask_set, pots_set]; exact Z8.out, by rw [HSW.out, HU.out, HCN.out]; omega, (fun _ => by rw [HSW.out, HU.out, HCN.out]; omega), (fun h => by cases h)⟩
                case measure => simp [intOf]; omega
            | none =>
              rw [hp] at s0 t0 HXP0
              cases hq : Q.getD q none with
              | some y =>
                rw [hq] at s1 t1 HYP0
                simp only [Option.isSome, Option.getD] at s0 s1 t0 t1 HXP0 HYP0
                have HU := Lib.hid (upd_ny (c := z) hp hq)
                have hcn := cnt_set (k := p) (by omega) hp (y + z)
                have HCN := Lib.hid hcn
                have hxb := HBQ.out.get HQP hm.2 hq
                have hw1 : IntKind.i64.wrap (y + z) = y + z := IntWalk.i64_in _ (by omega)
                clear hcn
                have HXP := Lib.hid HXP0
                have HYP := Lib.hid HYP0
                clear HXP0 HYP0
                have Z6 := Z5.setJ p
                have fj := Z5.jo.frozenAt p
                go_upto_region 17 with fail
                obtain ⟨W6, hW6⟩ : ∃ W6, W6 = W5.setCell ⟨gj, p, none⟩ (.bool true) := ⟨_, rfl⟩
                rw [← hW6] at Z6
                have v0' : W6.cell? ⟨V, 0, none⟩ = some (.int .i64 p) := by rw [hW6]; simp [go_sem, v0, hV1]
                have v1' : W6.cell? ⟨V, 1, none⟩ = some (.int .i64 q) := by rw [hW6]; simp [go_sem, v1, hV1]
                have d6 : W6.cell? ⟨b', off' + k, none⟩ = some (.int .i64 z) := by rw [hW6]; simp [go_sem, d5, hbj]
                have hz6' : V < W6.heap.size := by rw [hW6]; exact Nat.lt_of_lt_of_le hz5 (put_grown W5 ⟨gj, p, none⟩ (.bool true)).size
                rw [← hW6]
                clear hW6 v0 v1 d5 s0 s1 t0 t1 fj Z5
                have t0 := Z6.pcell hpN
                have t1 := Z6.pcell hqN
                rw [HXP.out] at t0
                rw [HYP.out] at t1
                have ff := Z6.po.frozenAt p
                go_still_tail 14, (by kernel_rfl)
                change wpList _ _ _ _ _ W6.drew
                obtain ⟨W7, hW7⟩ : ∃ W7, W7 = W6.drew := ⟨_, rfl⟩
                have hb7 : Below W6.heap.size W6 W7 := by rw [hW7]; exact (Below.refl _ _).drew
                rw [← hW7]
                clear hW7
                have Z7 := Z6.keep hb7
                have v0 := (hb7.cell (p := ⟨V, 0, none⟩) hz6').trans v0'
                have v1 := (hb7.cell (p := ⟨V, 1, none⟩) hz6').trans v1'
                clear Z6 hb7 v0' v1' d6 t0 t1 ff
                have t0 := Z7.pcell hpN
                have t1 := Z7.pcell hqN
                rw [HXP.out] at t0
                rw [HYP.out] at t1
                have ff := Z7.po.frozenAt p
                have s0 := Z7.jcell hpN
                have s1 := Z7.jcell hqN
                have Z8 := Lib.hid (Z7.setP p (y + z))
                clear Z7
                go_wp2_with fail
                go_roundw
                case rel => exact ⟨k + 1, true, by omega, by go_num, rfl, by rw [HSW.out, HU.out, mask_set, pots_set]; exact Z8.out, by rw [HSW.out, HU.out, HCN.out]; omega, (fun _ => by rw [HSW.out, HU.out, HCN.out]; omega), (fun h => by cases h)⟩
                case measure => simp [intOf]; omega
              | none =>
                rw [hq] at s1 t1 HYP0
                simp only [Option.isSome, Option.getD] at s0 s1 t0 t1 HXP0 HYP0
                have HU := Lib.hid (upd_nn (c := z) hp hq)
                have Z6 := Lib.hid Z5
                clear Z5
                go_wp2_with fail
                go_roundw
                case rel => exact ⟨k + 1, g, by omega, by go_num, rfl, by rw [HSW.out, HU.out]; exact Z6.out, by rw [HSW.out, HU.out]; exact hle, by rw [HSW.out, HU.out]; exact HT.out, by rw [HSW.out, HU.out]; exact HF.out⟩
                case measure => simp [intOf]; omega
          · obtain rfl : k = L.length := by omega
            have ht : (L.zip cs).take L.length = L.zip cs := List.take_of_length_le (by rw [HZL.out]; exact Nat.le_refl _)
            rw [ht] at Jr hle hT hF
            have e : repS (L.zip cs) (j + 1) (pot0 m) = sweep (L.zip cs) P := by show sweep (L.zip cs) (repS (L.zip cs) j (pot0 m)) = _; rw [HPE.out]
            have HT := Lib.hid hT
            have HF := Lib.hid hF
            have HE := Lib.hid e
            clear hT hF e ht
            go_wp2_with fail
            go_roundg (if g then gk - 1 else 0)
            case measure =>
              have := HJK.out
              have := cnt_le P
              cases g with
              | false => simp; omega
              | true => simp; omega
            case rel =>
              refine ⟨j + 1, g, rfl, by rw [HE.out]; exact Jr, ?_, ?_⟩
              · intro hg
                subst hg
                have := HJK.out
                have := HT.out rfl
                have := cnt_le P
                rw [HE.out]
                exact ⟨by omega, by simp; omega⟩
              · intro hg
                rw [HE.out, HF.out hg, ← HPE.out]
                exact resS_of hm1 (by rw [HPE.out]; exact hc) (by rw [HPE.out]; exact HF.out hg)
      | false =>
        have hR := hF rfl
        clear hF hT
        rw [← hR] at J HP
        obtain ⟨P, hPe⟩ : ∃ P, resS m (L.zip cs) = P := ⟨_, rfl⟩
        rw [hPe] at J HP
        have HBD := Lib.hid (resS_bd hm1 HPS.out HPB.out)
        rw [hPe] at HBD
        have HPR := Lib.hid hPe
        clear hPe hR
        obtain ⟨hz, n0, n1⟩ := id J.box
        go_wp2_with fail
        go_loopw [102] (fun i wr => ∃ k : Nat, k ≤ L.length ∧ i = .int .i64 k ∧ JB B gj gp w wr m A L.length c (mask P) (pots P) ∧ IsBl P ((L.zip cs).take k)) (fun i _ => L.length - (intOf i).toNat)
        case atStart => exact ⟨0, Nat.zero_le _, rfl, J, IsBl_nil _ _⟩
        case round =>
          obtain ⟨k, hk, rfl, Zr, hbl⟩ := hrel
          clear J hz n0 n1
          obtain ⟨hz, n0, n1⟩ := id Zr.box
          have HBL := Lib.hid hbl
          clear hbl
          by_cases hlt : k < L.length
          · obtain ⟨s, hs⟩ : ∃ s, L[k]? = some s := ⟨_, List.getElem?_eq_getElem hlt⟩
            obtain ⟨b, off, rfl, hbb, c0, c1⟩ := (hL.below Zr.bel) k s hs
            obtain ⟨z, hz0⟩ : ∃ z, cs[k]? = some z := ⟨_, List.getElem?_eq_getElem (by rw [HLE.out]; exact hlt)⟩
            obtain ⟨b', off', rfl, hb', d0⟩ := (hC.below Zr.bel) k z hz0
            have hso := HOK.out s (List.mem_of_getElem? hs)
            have hzb := HCB.out z (List.mem_of_getElem? hz0)
            have HZ := Lib.hid (zip_get L cs k s z hs hz0)
            obtain ⟨a, b0⟩ := s
            obtain ⟨p, rfl⟩ := Int.eq_ofNat_of_zero_le hso.2.1
            obtain ⟨q, rfl⟩ := Int.eq_ofNat_of_zero_le hso.2.2.2.1
            have hpN : p < m := by have := hso.2.2.1; simp at this; omega
            have hqN : q < m := by have := hso.2.2.2.2; simp at this; omega
            have hxb := getD_bd HBD.out HP hm.2 p
            have hyb := getD_bd HBD.out HP hm.2 q
            obtain ⟨x, hx⟩ : ∃ x, (P.getD p none).getD 0 = x := ⟨_, rfl⟩
            obtain ⟨y, hy⟩ : ∃ y, (P.getD q none).getD 0 = y := ⟨_, rfl⟩
            rw [hx] at hxb
            rw [hy] at hyb
            have HX := Lib.hid hx
            have HY := Lib.hid hy
            have k0 : (0 : Int) ≤ (k : Int) := by omega
            have k1 : (k : Int) < (L.length : Int) := by omega
            have k2 : (k : Int) < (cs.length : Int) := by rw [HLE.out]; exact k1
            have p0 : (0 : Int) ≤ (p : Int) := by omega
            have p1 : (p : Int) < (m : Int) := by omega
            have q0 : (0 : Int) ≤ (q : Int) := by omega
            have q1 : (q : Int) < (m : Int) := by omega
            have hw1 : IntKind.i64.wrap (x - y) = x - y := IntWalk.i64_in _ (by omega)
            clear hso hs hz0 hx hy
            go_wp2_with fail
            obtain ⟨W5, hW5⟩ : ∃ W5, W5 = wr.alloc (.cells #[.int .i64 p, .int .i64 q] 72) := ⟨_, rfl⟩
            have hb5 : Below wr.heap.size wr W5 := by rw [hW5]; exact (Below.refl _ _).alloc (Nat.le_refl _) _
            have hz5 : wr.heap.size < W5.heap.size := by rw [hW5]; simp
            have v0 : W5.cell? ⟨wr.heap.size, 0, none⟩ = some (.int .i64 p) := by rw [hW5]; simp
            have v1 : W5.cell? ⟨wr.heap.size, 1, none⟩ = some (.int .i64 q) := by rw [hW5]; simp
            have Z5 := Zr.keep hb5
            have d5 := (hb5.cell (p := ⟨b', off' + k, none⟩) (Nat.lt_trans hb' hz)).trans d0
            rw [← hW5]
            obtain ⟨V, hV⟩ : ∃ V, wr.heap.size = V := ⟨_, rfl⟩
            rw [hV] at hz5 v0 v1 ⊢
            clear hW5 hb5 Zr n0 n1 d0 c0 c1 hV
            have t0 := Z5.pcell hpN
            have t1 := Z5.pcell hqN
            rw [pots_get, HX.out] at t0
            rw [pots_get, HY.out] at t1
            have hB5 := Z5.bel
            by_cases hne : x - y = z
            · subst hne
              go_region
              all_goals
                go_wp2_with fail
                go_roundw
              case rel => exact ⟨k + 1, by omega, by go_num, Z5.keep (Below.refl _ _).drew, IsBl_succ HBL.out HZ.out (by simp only [Int.toNat_natCast]; rw [HX.out, HY.out])⟩
              case measure => simp [intOf]; omega
            · have e1 : (x - y == z) = false := by simp [hne]
              have e2 : (x - y != z) = true := by simp [hne]
              have HNO : Hid (¬ IsBl P (L.zip cs)) := Lib.hid fun h => hne (by
                have := h _ (List.mem_of_getElem? HZ.out)
                simp only [Int.toNat_natCast] at this
                rw [HX.out, HY.out] at this
                exact this)
              go_region
              all_goals
                go_wp2_with fail
                go_ret2
                exact RetBB.mk ⟨(fun h => by cases h), fun h => absurd h.2 (by rw [HPR.out]; exact HNO.out)⟩ ⟨fun _ => HA.out, fun _ => rfl⟩ (by rw [hBB]; exact hB5.drew)
          · obtain rfl : k = L.length := by omega
            have HYES : Hid (IsBl P (L.zip cs)) := Lib.hid (by
              have := HBL.out
              rwa [List.take_of_length_le (by rw [HZL.out]; exact Nat.le_refl _)] at this)
            have hB := Zr.bel
            go_wp2_with fail
            go_ret2
            exact RetBB.mk ⟨fun _ => ⟨HA.out, by rw [HPR.out]; exact HYES.out⟩, fun _ => rfl⟩ ⟨fun _ => HA.out, fun _ => rfl⟩ (by rw [hBB]; exact hB)
  · have HNO := Lib.hid hA
    go_enter Try.func22, Try.ntmps22
    go_wp2_with fail
    rw [← hW1]
    clear hW1
    refine (callB_no (neAsked_any N A _ c L Ac _ cc cs _ rfl rfl hn hnc ((hL.below hB1).mono (Nat.le_of_lt q1.lt)) ((hC.below hB1).mono (Nat.le_of_lt q1.lt))) hA).mono ?_
    rintro e w2 ⟨rfl, hb2⟩
    have hB2 := hB1.trans (hb2.mono (Nat.le_of_lt q1.lt))
    clear hA
    go_wp2_with fail
    go_ret2
    exact RetBB.mk ⟨(fun h => by cases h), fun h => absurd h.1 HNO.out⟩ ⟨(fun h => by cases h), fun h => absurd h HNO.out⟩ (by rw [hBB]; exact hB2)

end Go.Proofs.Ythifflekbdeafaa
