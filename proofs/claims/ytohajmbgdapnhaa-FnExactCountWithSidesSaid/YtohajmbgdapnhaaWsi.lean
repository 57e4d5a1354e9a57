/- CountWithSides: the program's. -/
import Derived.Test.YtohajmbgdapnhaaLsA
import Derived.Test.YtohajmbgdapnhaaGf
import Derived.Test.YtohajmbgdapnhaaSides
import Derived.Test.YtohajmbgdapnhaaFill
set_option linter.all false
namespace Go.Proofs.Ytohajmbgdapnhaa
open Go.RowKit Go.Shelf
attribute [local go_sem] Oper.semAt_some

theorem isSide_any (s : Int) (w : World) : Calls Try.prog 71 #[.int .i64 s] w fun e w' => e = .returned (.bool (inB s 1 6)) ∧ w = w' := by
  go_enter Try.func71, Try.ntmps71
  go_wp2_with fail
  refine (isUpTo_any _ _ _).mono ?_
  rintro e w' ⟨rfl, rfl⟩
  go_wp2_with fail
  go_ret
  exact ⟨rfl, rfl⟩
noncomputable def mostV (W H m : Int) : Int := if okF W H && inB m 1 6 then wrap64 (fills m.toNat H.toNat (W.toNat * H.toNat) (List.replicate W.toNat 0)).length else 0
noncomputable def okD (d : List Int) : Bool := dc ((1 ≤ d.length ∧ d.length ≤ 16) ∧ ∀ s ∈ d, 1 ≤ s ∧ s ≤ 6)
theorem okD_iff {d : List Int} : okD d = true ↔ (1 ≤ d.length ∧ d.length ≤ 16) ∧ ∀ s ∈ d, 1 ≤ s ∧ s ≤ 6 := dc_iff
theorem okD_false {d : List Int} (h : ¬ ((1 ≤ d.length ∧ d.length ≤ 16) ∧ ∀ s ∈ d, 1 ≤ s ∧ s ≤ 6)) : okD d = false := dc_false h
noncomputable def wsV (W H : Int) (d : List Int) : Int := if okD d then cntL W H (fun L => dsc (sides L) == dsc d) else 0
def RetWs (w : World) (W H : Int) (d : List Int) (e : Ending) (w' : World) : Prop := e = .returned (.tuple #[.int .i64 (wsV W H d), .bool (okL W H && okD d)]) ∧ Below w.heap.size w w'
theorem wsV_no {W H : Int} {d : List Int} (h : okD d = false) : wsV W H d = 0 := by unfold wsV; rw [if_neg (by rw [h]; decide)]
theorem wsV_yes {W H : Int} {d : List Int} (h : okD d = true) : wsV W H d = cntL W H (fun L => dsc (sides L) == dsc d) := by unfold wsV; rw [if_pos h]
theorem max_ind (f : List Int) (k : Nat) (h0 : 0 < k) (hk : k ≤ f.length) : (∀ (i : Nat) u, i < k → f[i]? = some u → u ≤ Lib.maxOf (f.take k)) ∧ ∃ i, i < k ∧ f[i]? = some (Lib.maxOf (f.take k)) := by
  induction k with
  | zero => omega
  | succ k ih =>
    have hg : f[k]? = some (f.getD k 0) := by simp [List.getD, List.getElem?_eq_getElem (by omega : k < f.length)]
    rcases Nat.eq_zero_or_pos k with rfl | hp
    · rw [Lib.maxOf_one]
      refine ⟨fun i u hi hu => ?_, 0, by omega, hg⟩
      obtain rfl : i = 0 := by omega
      rw [hg] at hu; cases hu; exact Int.le_refl _
    · rw [Lib.maxOf_step f k hp (by omega)]
      obtain ⟨h1, j, hj, h2⟩ := ih hp (by omega)
      refine ⟨fun i u hi hu => ?_, ?_⟩
      · by_cases e : i = k
        · subst e
          rw [hg] at hu; cases hu; omega
        · have := h1 i u (by omega) hu; omega
      · by_cases e : f.getD k 0 ≤ Lib.maxOf (f.take k)
        · exact ⟨j, by omega, by rw [h2]; congr 1; omega⟩
        · exact ⟨k, by omega, by rw [hg]; congr 1; omega⟩
theorem minL_iff {d : List Int} (h : 0 < d.length) (hi : inB (Lib.minOf (d.take d.length)) 1 6 = true ∧ inB (Lib.maxOf (d.take d.length)) 1 6 = true) : ∀ s ∈ d, 1 ≤ s ∧ s ≤ 6 := by
  intro s hs
  obtain ⟨k, hk, e⟩ := List.mem_iff_getElem.1 hs
  have e' : d[k]? = some s := by rw [List.getElem?_eq_getElem hk, e]
  have h1 := (min_ind d d.length h (Nat.le_refl _)).1 k s hk e'
  have h2 := (max_ind d d.length h (Nat.le_refl _)).1 k s hk e'
  have := inB_iff.1 hi.1
  have := inB_iff.1 hi.2
  omega
theorem minL_of {d : List Int} (h : 0 < d.length) (ha : ∀ s ∈ d, 1 ≤ s ∧ s ≤ 6) : inB (Lib.minOf (d.take d.length)) 1 6 = true ∧ inB (Lib.maxOf (d.take d.length)) 1 6 = true := by
  obtain ⟨i, _, h1⟩ := (min_ind d d.length h (Nat.le_refl _)).2
  obtain ⟨j, _, h2⟩ := (max_ind d d.length h (Nat.le_refl _)).2
  exact ⟨inB_iff.2 (ha _ (List.mem_of_getElem? h1)), inB_iff.2 (ha _ (List.mem_of_getElem? h2))⟩
/-- The cells behind a list of numbers that is not empty. -/
theorem ints_cells {w : World} {B : Nat} {A : Option Addr} {L : List Int} (h : IntsAt w B A L) (h0 : 0 < L.length) : ∃ b off, A = some ⟨b, off, none⟩ ∧ b < B ∧ ∀ j, j < L.length → w.cell? ⟨b, off + j, none⟩ = some (.int .i64 (L.getD j 0)) := by
  obtain ⟨b, off, rfl, hb, h1⟩ := h 0 _ (List.getElem?_eq_getElem h0)
  refine ⟨b, off, rfl, hb, fun j hj => ?_⟩
  obtain ⟨b', off', e, _, h2⟩ := h j _ (List.getElem?_eq_getElem hj)
  cases e
  rw [h2]
  simp [List.getD, List.getElem?_eq_getElem hj]
theorem eqI_any (A A' : Option Addr) (c c' : Nat) (L M : List Int) (w : World) (h0 : 0 < L.length) (h1 : 0 < M.length) (hl : L.length ≤ 1000) (hm : M.length ≤ 1000) (hL : IntsAt w w.heap.size A L) (hM : IntsAt w w.heap.size A' M) :
    Calls Try.prog 77 #[.slice A L.length c, .slice A' M.length c'] w fun e w' => e = .returned (.bool (L == M)) ∧ ∃ q, w' = w.drewN q := by
  obtain ⟨b, off, rfl, _, x⟩ := ints_cells hL h0
  obtain ⟨b', off', rfl, _, y⟩ := ints_cells hM h1
  have C : Calls Try.prog 77 #[.slice (some ⟨b, off, none⟩) L.length c, .slice (some ⟨b', off', none⟩) M.length c'] w fun e w' => e = .returned (.bool (L.take L.length == M.take M.length)) ∧ ∃ q, w' = w.drewN q := Try.slices_Equal_int b off L.length c b' off' M.length c' L M w (Nat.le_refl _) (Nat.le_refl _) (by omega) (by omega) x y
  rw [List.take_length, List.take_length] at C
  exact C
theorem sides_pos {W H : Int} {L : List Sq} (hG : Good W H L) : 0 < (dsc (sides L)).length ∧ (dsc (sides L)).length ≤ 30 := by
  rw [dsc_len, sides_len]
  exact hG.2.2.1
set_option maxRecDepth 100000 in
set_option maxHeartbeats 2000000 in
theorem ws_any (W H : Int) (A A' : Option Addr) (n c c' Bc : Nat) (L : List Sq) (D : List Int) (w : World) (hl : L.length = n) (hc : n ≤ c) (hL : SqsAt w w.heap.size A L) (hG : Good W H L) (hD0 : 0 < D.length) (hD1 : D.length ≤ 1000) (hD : IntsAt w w.heap.size A' D)
    (h0 : w.cell? ⟨Bc, 0, none⟩ = some (.slice A' D.length c')) :
    Calls Try.prog 75 #[.agg #[.int .i64 W, .int .i64 H, .slice A n c], .pointer (some ⟨Bc, 0, none⟩)] w fun e w' => e = .returned (.bool (dsc (sides L) == D)) ∧ Below w.heap.size w w' := by
  have hB := World.block_lt_of_cell? _ _ h0
  obtain ⟨w1, hw1⟩ : ∃ w1, w1 = w.alloc (.cells #[.int .i64 W, .int .i64 H, .slice A n c] 30) := ⟨_, rfl⟩
  have hb1 : Below w.heap.size w w1 := by rw [hw1]; exact (Below.refl _ _).alloc (Nat.le_refl _) _
  have y0 := (hb1.cell (p := ⟨Bc, 0, none⟩) hB).trans h0
  have hB1 : Bc < w1.heap.size := World.block_lt_of_cell? _ _ y0
  have CS := implSides_any W H A n c L w1 hl hc ((hL.below hb1).mono hb1.size) (wf_good hG)
  rw [ifGood_yes hG, dc_true hG] at CS
  unfold RetInts at CS
  have hD1' := (hD.below hb1).mono hb1.size
  have hsl : (sides L).length ≤ 30 := by rw [sides_len]; exact hG.2.2.1.2
  obtain ⟨hp0, hp1⟩ := sides_pos hG
  obtain ⟨S, hS⟩ : ∃ S, sides L = S := ⟨_, rfl⟩
  rw [hS] at CS hsl hp0 hp1 ⊢
  obtain ⟨G, hGG⟩ : ∃ G, dsc S = G := ⟨_, rfl⟩
  rw [hGG] at hp0 hp1 ⊢
  have HGG := Lib.hid hGG
  clear hGG
  have HC := Lib.hid CS
  have HD := Lib.hid hD1'
  clear CS hL hG hl hS hD h0 hD1'
  go_enter Try.func75, Try.ntmps75
  go_wp2_with fail
  rw [← hw1]
  clear hw1
  (with_reducible refine HC.out.mono ?_)
  rintro e w2 ⟨A2, c2, rfl, ho2, hb2⟩
  have y2 := (hb2.cell (p := ⟨Bc, 0, none⟩) hB1).trans y0
  have hB2 := hb1.trans (hb2.mono hb1.size)
  have HD2 := Lib.hid ((HD.out.below hb2).mono hb2.size)
  have HI := Lib.hid (ints_of_own ho2)
  have hBc2 : Bc < w2.heap.size := World.block_lt_of_cell? _ _ y2
  clear y0 ho2 hb2
  go_wp2_with fail
  have CG : ∀ V, Below w2.heap.size w2 V → Calls Try.prog 74 #[.slice A2 S.length c2] V (RetNs V G) := fun V hb => by rw [← HGG.out]; exact gfirst_any A2 S.length c2 S V rfl (by omega) ((HI.out.below hb).mono hb.size)
  have CE : ∀ V A3 c3, Below w2.heap.size w2 V → IntsAt V V.heap.size A3 G → Calls Try.prog 77 #[.slice A3 G.length c3, .slice A' D.length c'] V fun e w' => e = .returned (.bool (G == D)) ∧ ∃ q, w' = V.drewN q := fun V A3 c3 hb h3 => eqI_any A3 A' c3 c' G D V hp0 hD0 (by omega) hD1 h3 ((HD2.out.below hb).mono hb.size)
  have HCG := Lib.hid CG
  have HCE := Lib.hid CE
  clear CG CE
  go_region_with (first
    | (go_at_call 74; refine (HCG.out _ (by first | exact Below.refl _ _ | exact (Below.refl _ _).drew)).mono ?_; rintro e w3 ⟨A3, c3, rfl, ho3, hb3⟩; have hB3 : Below w2.heap.size w2 w3 := (by first | exact hb3 | exact (Below.refl _ _).drew.trans hb3); have y3 := (hB3.cell (p := ⟨Bc, 0, none⟩) hBc2).trans y2; have HI3 := Lib.hid (ints_of_own ho3); clear ho3 hb3)
    | (go_at_call 77; refine (HCE.out _ _ _ (by first | exact hB3 | exact hB3.drew | exact below_drewN hB3 _) (by first | exact HI3.out | exact (HI3.out.below (Below.refl _ _).drew).mono (Nat.le_refl _))).mono ?_; rintro e w4 ⟨rfl, ⟨q, rfl⟩⟩))
  all_goals go_wp2_with fail
  all_goals go_ret
  all_goals refine ⟨rfl, hB2.trans ?_⟩
  all_goals first
    | exact (below_drewN hB3 _).mono hB2.size
    | exact (below_drewN hB3 _).drew.mono hB2.size
    | exact (below_drewN hB3.drew _).mono hB2.size
set_option maxRecDepth 100000 in
theorem one_ws (W H : Int) (L : List Sq) (A : Option Addr) (c Bi : Nat) (p : List Sq → Bool) (Bc : Nat) (w : World) (hi : w.cell? ⟨Bi, 0, none⟩ = some (.func (.func 75) #[] #[.pointer (some ⟨Bc, 0, none⟩)]))
    (CP : ∀ V, Below w.heap.size w V → Calls Try.prog 75 #[.agg #[.int .i64 W, .int .i64 H, .slice A L.length c], .pointer (some ⟨Bc, 0, none⟩)] V fun e V' => e = .returned (.bool (p L)) ∧ Below V.heap.size V V') :
    Calls Try.prog 148 #[.agg #[.int .i64 W, .int .i64 H, .slice A L.length c], .pointer (some ⟨Bi, 0, none⟩)] w fun e w' => e = .returned (.int .i64 (if p L then 1 else 0)) ∧ Below w.heap.size w w' := by
  have hBi := World.block_lt_of_cell? _ _ hi
  obtain ⟨w1, hw1⟩ : ∃ w1, w1 = w.alloc (.cells #[.int .i64 W, .int .i64 H, .slice A L.length c] 30) := ⟨_, rfl⟩
  have hb1 : Below w.heap.size w w1 := by rw [hw1]; exact (Below.refl _ _).alloc (Nat.le_refl _) _
  have i1 := (hb1.cell (p := ⟨Bi, 0, none⟩) hBi).trans hi
  have C := fun w' (hb' : Below w1.heap.size w1 w') => CP w' (hb1.trans (hb'.mono hb1.size))
  obtain ⟨v, hv⟩ : ∃ v, p L = v := ⟨_, rfl⟩
  simp only [hv] at C ⊢
  have HC := Lib.hid C
  rw [hw1] at i1
  clear C CP hi hv
  go_enter Try.func148, Try.ntmps148
  go_wp2_with fail
  rw [← hw1]
  clear hw1
  refine (HC.out _ (by first | exact Below.refl _ _ | exact (Below.refl _ _).drew | exact below_drewN (Below.refl _ _) _)).mono ?_
  rintro e w2 ⟨rfl, hb2⟩
  have hB2 := hb1.trans (hb2.mono hb1.size)
  clear i1
  cases v
  · go_wp2_with fail
    go_ret
    exact ⟨rfl, hB2⟩
  · go_wp2_with fail
    go_ret
    exact ⟨rfl, hB2⟩
set_option maxRecDepth 100000 in
theorem countL_ws (W H : Nat) (hok : okL W H = true) (p : List Sq → Bool) (Bc : Nat) (w : World)
    (CP : ∀ V L A c, Below w.heap.size w V → L ∈ allF W H → L.length ≤ c → SqsAt V V.heap.size A L → Calls Try.prog 75 #[.agg #[.int .i64 W, .int .i64 H, .slice A L.length c], .pointer (some ⟨Bc, 0, none⟩)] V fun e V' => e = .returned (.bool (p L)) ∧ Below V.heap.size V V') :
    Calls Try.prog 64 #[.int .i64 W, .int .i64 H, .func (.func 75) #[] #[.pointer (some ⟨Bc, 0, none⟩)]] w fun e w' => e = .returned (.tuple #[.int .i64 (cntL W H p), .bool true]) ∧ Below w.heap.size w w' := by
  have hh := okL_nat.1 hok
  obtain ⟨w1, hw1⟩ : ∃ w1, w1 = (w.alloc (.cells #[.int .i64 W] 3)).alloc (.cells #[.int .i64 H] 3) := ⟨_, rfl⟩
  have hz1 : w1.heap.size = w.heap.size + 2 := by rw [hw1]; simp
  have hb1 : Below w.heap.size w w1 := by rw [hw1]; exact ((Below.refl _ _).alloc (Nat.le_refl _) _).alloc (by simp) _
  have cw : w1.cell? ⟨w.heap.size, 0, none⟩ = some (.int .i64 W) := by rw [hw1, World.cell?_alloc_lt _ _ _ (by simp)]; simp [go_sem]
  have ch : w1.cell? ⟨w.heap.size + 1, 0, none⟩ = some (.int .i64 H) := by rw [hw1]; simp [go_sem]
  obtain ⟨w2, hw2⟩ : ∃ w2, w2 = w1.alloc (.cells #[.func (.func 75) #[] #[.pointer (some ⟨Bc, 0, none⟩)]] 67) := ⟨_, rfl⟩
  have hb2 : Below w1.heap.size w1 w2 := by rw [hw2]; exact (Below.refl _ _).alloc (Nat.le_refl _) _
  have hB2 := hb1.trans (hb2.mono hb1.size)
  have q : ∀ {b : Nat} {v : Value}, w1.cell? ⟨b, 0, none⟩ = some v → w2.cell? ⟨b, 0, none⟩ = some v := fun h => (hb2.cell (p := ⟨_, 0, none⟩) (World.block_lt_of_cell? _ _ h)).trans h
  have i1 : w2.cell? ⟨w1.heap.size, 0, none⟩ = some (.func (.func 75) #[] #[.pointer (some ⟨Bc, 0, none⟩)]) := by rw [hw2]; simp [go_sem]
  have CS := sumC_p W H (by omega) (by omega) w.heap.size (w.heap.size + 1) w1.heap.size (fun L => if p L then 1 else 0) w2 (q cw) (q ch) (fun V L A c hb hL hcap hsq =>
    one_ws W H L A c w1.heap.size p Bc V ((hb.cell (p := ⟨w1.heap.size, 0, none⟩) (World.block_lt_of_cell? _ _ i1)).trans i1) (fun V' hb' => CP V' L A c (hB2.trans ((hb.trans (hb'.mono hb.size)).mono hB2.size)) hL hcap ((hsq.below hb').mono hb'.size)))
  rw [wtell_is] at CS
  have hlen : ((allF W H).filter p).length ≤ 65536 := Nat.le_trans (List.length_filter_le _ _) (allF_few hok)
  rw [w_in (by omega) (by omega)] at CS
  have HC := Lib.hid CS
  have C0 := listed_yes W H hok w
  rw [← hw1] at C0
  rw [cntL_yes hok]
  have CC : Calls Try.prog 115 #[.func (.func 160) #[] #[.pointer (some ⟨w.heap.size, 0, none⟩), .pointer (some ⟨w.heap.size + 1, 0, none⟩)], .func (.func 75) #[] #[.pointer (some ⟨Bc, 0, none⟩)]] w1 fun e w' => e = .returned (.int .i64 (((allF W H).filter p).length : Nat)) ∧ Below w1.heap.size w1 w' := by
    clear CS q i1 cw ch CP C0 hlen hok hw1 hz1
    go_enter Try.func115, Try.ntmps115
    go_wp2_with fail
    rw [← hw2]
    refine HC.out.mono ?_
    rintro e w3 ⟨rfl, hb3⟩
    clear hw2
    go_wp2_with fail
    go_ret
    exact ⟨rfl, hb2.trans (hb3.mono hb2.size)⟩
  have HCC := Lib.hid CC
  have HC0 := Lib.hid C0
  clear CS q i1 cw ch CP C0 hlen hok HC CC hw2 hw1
  go_enter Try.func64, Try.ntmps64
  go_wp2_with fail
  refine HC0.out.mono ?_
  rintro e w3 ⟨rfl, rfl⟩
  go_wp2_with fail
  refine HCC.out.mono ?_
  rintro e w4 ⟨rfl, hb4⟩
  go_wp2_with fail
  go_ret2
  exact ⟨rfl, hb1.trans (hb4.mono hb1.size)⟩

set_option maxRecDepth 100000 in
set_option maxHeartbeats 4000000 in
theorem implWs_any (W H : Int) (A : Option Addr) (n c : Nat) (d : List Int) (w : World) (hl : d.length = n) (hn : n ≤ 1048576) (hd : IntsAt w w.heap.size A d) :
    Calls Try.prog 31 #[.int .i64 W, .int .i64 H, .slice A n c] w (RetWs w W H d) := by
  subst hl
  by_cases h1 : (d.length : Int) < 1
  · have hk : okD d = false := okD_false fun h => by omega
    have hs1 : decide ((d.length : Int) < 1) = true := decide_eq_true h1
    have hs1' : d.length < 1 := by omega
    unfold RetWs
    rw [wsV_no hk, hk, Bool.and_false]
    clear hd
    go_enter Try.func31, Try.ntmps31
    go_wp2_with fail
    go_ret2
    exact ⟨rfl, Below.refl _ _⟩
  · have hs1 : decide ((d.length : Int) < 1) = false := decide_eq_false h1
    by_cases h16 : (16 : Int) < (d.length : Int)
    · have hk : okD d = false := okD_false fun h => by omega
      have hs2 : decide ((16 : Int) < (d.length : Int)) = true := decide_eq_true h16
      have hs2' : 16 < d.length := by omega
      unfold RetWs
      rw [wsV_no hk, hk, Bool.and_false]
      clear hd
      go_enter Try.func31, Try.ntmps31
      go_wp2_with fail
      go_ret2
      exact ⟨rfl, Below.refl _ _⟩
    · have hs2 : decide ((16 : Int) < (d.length : Int)) = false := decide_eq_false h16
      have hd0 : 0 < d.length := by omega
      obtain ⟨b, off, rfl, hbb, hcells⟩ := ints_cells hd hd0
      have CM : Calls Try.prog 72 #[.slice (some ⟨b, off, none⟩) d.length c] w fun e w' => e = .returned (.int .i64 (Lib.minOf (d.take d.length))) ∧ w' = w := Try.slices_Min_int b off d.length c d w hd0 (Nat.le_refl _) (by omega) hcells
      have CX : Calls Try.prog 73 #[.slice (some ⟨b, off, none⟩) d.length c] w fun e w' => e = .returned (.int .i64 (Lib.maxOf (d.take d.length))) ∧ w' = w := Try.slices_Max_int b off d.length c d w hd0 (Nat.le_refl _) (by omega) hcells
      have hof := fun h => minL_of (d := d) hd0 h
      have hiff := fun h => minL_iff (d := d) hd0 h
      obtain ⟨mi, hmi0⟩ : ∃ mi, Lib.minOf (d.take d.length) = mi := ⟨_, rfl⟩
      obtain ⟨ma, hma0⟩ : ∃ ma, Lib.maxOf (d.take d.length) = ma := ⟨_, rfl⟩
      rw [hmi0] at CM hof hiff
      rw [hma0] at CX hof hiff
      have HCM := Lib.hid CM
      have HCX := Lib.hid CX
      have HD := Lib.hid hd
      have HOF := Lib.hid hof
      have HIFF := Lib.hid hiff
      clear CM CX hd hcells hmi0 hma0 hof hiff
      cases hmi : inB mi 1 6 with
      | false =>
        have hk : okD d = false := okD_false fun h => by have := (HOF.out h.2).1; rw [hmi] at this; cases this
        unfold RetWs
        rw [wsV_no hk, hk, Bool.and_false]
        have HMI := Lib.hid hmi
        clear hmi hk
        go_enter Try.func31, Try.ntmps31
        go_wp2_with fail
        (with_reducible refine HCM.out.mono ?_)
        rintro e w' ⟨rfl, rfl⟩
        go_wp2_with fail
        refine (isSide_any _ _).mono ?_
        rw [HMI.out]
        rintro e w2 ⟨rfl, rfl⟩
        go_wp2_with fail
        go_ret2
        exact ⟨rfl, Below.refl _ _⟩
      | true =>
        cases hma : inB ma 1 6 with
        | false =>
          have hk : okD d = false := okD_false fun h => by have := (HOF.out h.2).2; rw [hma] at this; cases this
          unfold RetWs
          rw [wsV_no hk, hk, Bool.and_false]
          have HMI := Lib.hid hmi
          have HMA := Lib.hid hma
          clear hmi hma hk
          go_enter Try.func31, Try.ntmps31
          go_wp2_with fail
          (with_reducible refine HCM.out.mono ?_)
          rintro e w' ⟨rfl, rfl⟩
          go_wp2_with fail
          refine (isSide_any _ _).mono ?_
          rw [HMI.out]
          rintro e w2 ⟨rfl, rfl⟩
          go_wp2_with fail
          (with_reducible refine HCX.out.mono ?_)
          rintro e w' ⟨rfl, rfl⟩
          go_wp2_with fail
          refine (isSide_any _ _).mono ?_
          rw [HMA.out]
          rintro e w2 ⟨rfl, rfl⟩
          go_wp2_with fail
          go_ret2
          exact ⟨rfl, Below.refl _ _⟩
        | true =>
          have hk : okD d = true := okD_iff.2 ⟨by omega, HIFF.out ⟨hmi, hma⟩⟩
          unfold RetWs
          rw [wsV_yes hk, hk, Bool.and_true]
          have HMI := Lib.hid hmi
          have HMA := Lib.hid hma
          clear hmi hma hk
          have hdl := dsc_len d
          have CG := gfirst_any (some ⟨b, off, none⟩) d.length c d w rfl (by omega) HD.out
          obtain ⟨G, hG⟩ : ∃ G, dsc d = G := ⟨_, rfl⟩
          rw [hG] at hdl CG ⊢
          have HCG := Lib.hid CG
          have HDL := Lib.hid hdl
          clear CG hdl hG
          cases hok : okL W H with
          | false =>
            rw [cntL_no hok]
            have HOK := Lib.hid hok
            clear hok
            go_enter Try.func31, Try.ntmps31
            go_wp2_with fail
            (with_reducible refine HCM.out.mono ?_)
            rintro e w' ⟨rfl, rfl⟩
            go_wp2_with fail
            refine (isSide_any _ _).mono ?_
            rw [HMI.out]
            rintro e w2 ⟨rfl, rfl⟩
            go_wp2_with fail
            (with_reducible refine HCX.out.mono ?_)
            rintro e w' ⟨rfl, rfl⟩
            go_wp2_with fail
            refine (isSide_any _ _).mono ?_
            rw [HMA.out]
            rintro e w2 ⟨rfl, rfl⟩
            go_wp2_with fail
            (with_reducible refine HCG.out.mono ?_)
            rintro e w2 ⟨A2, c2, rfl, ho2, hb2⟩
            go_wp2_with fail
            (with_reducible refine (countListed_no W H HOK.out _ _ _ _).mono ?_)
            rintro e w3 ⟨rfl, hb3⟩
            go_wp2_with fail
            go_ret2
            have hba : Below w2.heap.size w2 (w2.alloc (.cells #[.slice A2 G.length c2] 44)) := (Below.refl _ _).alloc (Nat.le_refl _) _
            exact ⟨rfl, hb2.trans ((hba.trans (hb3.mono hba.size)).mono hb2.size)⟩
          | true =>
            obtain ⟨a, b', rfl, rfl⟩ := okL_ex hok
            have CC : ∀ (w2 : World) (A2 : Option Addr) (c2 : Nat), w2.ownsRow w.heap.size 3 1 (.slice A2 G.length c2) G.length (ints G) → Calls Try.prog 64 #[.int .i64 a, .int .i64 b', .func (.func 75) #[] #[.pointer (some ⟨w2.heap.size, 0, none⟩)]] (w2.alloc (.cells #[.slice A2 G.length c2] 44)) fun e w' => e = .returned (.tuple #[.int .i64 (cntL a b' (fun L => dsc (sides L) == G)), .bool true]) ∧ Below (w2.alloc (.cells #[.slice A2 G.length c2] 44)).heap.size (w2.alloc (.cells #[.slice A2 G.length c2] 44)) w' := fun w2 A2 c2 ho2 =>
              countL_ws a b' hok (fun L => dsc (sides L) == G) w2.heap.size _ (fun V M A' c' hb hM hc' hsq => by
                have hgm := allF_good hok M hM
                have hba : Below w2.heap.size w2 (w2.alloc (.cells #[.slice A2 G.length c2] 44)) := (Below.refl _ _).alloc (Nat.le_refl _) _
                have hbV := hba.trans (hb.mono hba.size)
                have hz : w2.heap.size < (w2.alloc (.cells #[.slice A2 G.length c2] 44)).heap.size := by simp
                have hcell : V.cell? ⟨w2.heap.size, 0, none⟩ = some (.slice A2 G.length c2) := (hb.cell (p := ⟨w2.heap.size, 0, none⟩) hz).trans (by simp [go_sem])
                exact ws_any a b' A' A2 M.length c' c2 w2.heap.size M G V rfl hc' hsq hgm (by have := HDL.out; omega) (by have := HDL.out; omega) (((ints_of_own ho2).below hbV).mono hbV.size) hcell)
            obtain ⟨v, hv⟩ : ∃ v, cntL a b' (fun L => dsc (sides L) == G) = v := ⟨_, rfl⟩
            rw [hv] at CC ⊢
            have HCC := Lib.hid CC
            clear hok CC hv
            go_enter Try.func31, Try.ntmps31
            go_wp2_with fail
            (with_reducible refine HCM.out.mono ?_)
            rintro e w' ⟨rfl, rfl⟩
            go_wp2_with fail
            refine (isSide_any _ _).mono ?_
            rw [HMI.out]
            rintro e w2 ⟨rfl, rfl⟩
            go_wp2_with fail
            (with_reducible refine HCX.out.mono ?_)
            rintro e w' ⟨rfl, rfl⟩
            go_wp2_with fail
            refine (isSide_any _ _).mono ?_
            rw [HMA.out]
            rintro e w2 ⟨rfl, rfl⟩
            go_wp2_with fail
            (with_reducible refine HCG.out.mono ?_)
            rintro e w2 ⟨A2, c2, rfl, ho2, hb2⟩
            have HO2 := Lib.hid ho2
            clear ho2
            go_wp2_with fail
            (with_reducible refine (HCC.out w2 A2 c2 HO2.out).mono ?_)
            rintro e w3 ⟨rfl, hb3⟩
            go_wp2_with fail
            go_ret2
            have hba : Below w2.heap.size w2 (w2.alloc (.cells #[.slice A2 G.length c2] 44)) := (Below.refl _ _).alloc (Nat.le_refl _) _
            exact ⟨rfl, hb2.trans ((hba.trans (hb3.mono hba.size)).mono hb2.size)⟩
end Go.Proofs.Ytohajmbgdapnhaa
