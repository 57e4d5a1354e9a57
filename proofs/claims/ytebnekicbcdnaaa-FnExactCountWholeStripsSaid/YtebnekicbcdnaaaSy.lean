/- The model's table of ways, made and filled. -/
import Derived.Test.YtebnekicbcdnaaaSw
import Derived.Test.YtebnekicbcdnaaaSS
set_option linter.all false
namespace Go.Proofs.Ytebnekicbcdnaaa
open Go.RowKit

theorem count_any (N wo h H b0 c0 : Nat) (g : Nat → Nat) (h1 : 1 ≤ h) (hh : h ≤ 4) (hH : H ≤ 30) : ∀ n, CountsTo N wo h H b0 c0 g n
  | 0 => fun _ _ _ hmu => absurd hmu (Nat.not_lt_zero _)
  | n + 1 => fun left s w hmu hl hS T => count_node N wo h H b0 c0 g n (count_any N wo h H b0 c0 g h1 hh hH n) h1 hh hH left s w (by omega) hl hS T
theorem infoIntY : (Try.prog.info? 3).map (fun i => (i.zero, i.size, i.bytes)) = some (some (.int .i64 0), 1, 8) := by kernel_rfl
theorem infoIntsY : (Try.prog.info? 25).map (fun i => (i.zero, i.size, i.bytes)) = some (some (.slice none 0 0), 1, 24) := by kernel_rfl
theorem made_intsY (m : Nat) : (madeCells (Value.int .i64 0).cells (m * 1)).toList = ints (List.replicate m 0) := by
  rw [show (Value.int .i64 0).cells = #[.int .i64 0] from rfl, toList_madeCells_one]; simp [ints]
theorem ints_setY (l : List Int) (k : Nat) (x : Int) : ints (l.set k x) = (ints l).set k (.int .i64 x) := by simp [ints, List.map_set]
/-- A row that is made to -1, so far. -/
def mk1 (P i : Nat) : List Int := (List.range P).map fun s => if s < i then -1 else 0
theorem mk1_len (P i : Nat) : (mk1 P i).length = P := by simp [mk1]
theorem mk1_zero (P : Nat) : mk1 P 0 = List.replicate P 0 := by
  apply List.ext_getElem
  · simp [mk1]
  · intro i h1 h2; simp [mk1]
theorem mk1_set (P i : Nat) : (mk1 P i).set i (-1) = mk1 P (i + 1) := by
  apply List.ext_getElem
  · simp [mk1]
  · intro j h1 h2
    simp only [mk1, List.getElem_set, List.getElem_map, List.getElem_range]
    by_cases e : i = j
    · subst e; rw [if_pos rfl, if_pos (by omega)]
    · rw [if_neg e]
      by_cases e2 : j < i
      · rw [if_pos e2, if_pos (by omega)]
      · rw [if_neg e2, if_neg (by omega)]
/-- A table under way. -/
structure TP (N h H l : Nat) (g : Nat → Nat) (w0 w : World) : Prop where
  own : ∃ xs, w.ownsRow N 25 1 (.slice (some ⟨N, 0, none⟩) (H + 1) (H + 1)) (H + 1) xs
  out : ∀ k, k < l → w.cell? ⟨N, k, none⟩ = some (.slice (some ⟨g k, 0, none⟩) (4 ^ h) (4 ^ h))
  row : ∀ k, k < l → ∃ cur, w.heap[g k]? = some (.cells cur 3 (0, 0)) ∧ ∀ s, s < 4 ^ h → cur[s]? = some (.int .i64 (-1))
  gt : ∀ k, k < l → N < g k
  mono : ∀ k k', k < k' → k' < l → g k < g k'
  bel : Below N w0 w
theorem TP.full {N h H wo : Nat} {g : Nat → Nat} {w0 w : World} (T : TP N h H (H + 1) g w0 w) : TW N wo h H N g w := by
  obtain ⟨xs, ho⟩ := T.own
  refine ⟨⟨Nat.le_refl _, fun l hl => Nat.le_of_lt (T.gt l (by omega))⟩, fun l hl => T.out l (by omega), fun l hl => ?_, fun l l' hl hl' e => ?_, fun l hl e => by have := T.gt l (by omega); omega, (own_lt ho).2⟩
  · obtain ⟨cur, h1, h2⟩ := T.row l (by omega)
    exact ⟨cur, h1, fun s hs => ⟨-1, h2 s hs, .inl rfl⟩⟩
  · rcases Nat.lt_trichotomy l l' with k | k | k
    · have := T.mono l l' k (by omega); omega
    · exact k
    · have := T.mono l' l k (by omega); omega
theorem TP.next {N h H l B : Nat} {g : Nat → Nat} {w0 w w2 w5 : World} {P : Nat} (T : TP N h H l g w0 w) (hl : l < H + 1) (hP : 4 ^ h = P) (hB : B = w.heap.size) (hg2 : w.grownBy w2 none) (hg5 : (w2.setCell ⟨N, l, none⟩ (.slice (some ⟨B, 0, none⟩) P P)).grownBy w5 (some B))
    (ho : w5.ownsRow B 3 1 (.slice (some ⟨B, 0, none⟩) P P) P (ints (mk1 P P))) : TP N h H (l + 1) (fun k => if k = l then B else g k) w0 w5 := by
  obtain ⟨xs, hown⟩ := T.own
  have hNlt := (own_lt hown).2
  have o2 := own_blk hown (w' := w2) fun k hk => hg2.block k (hown.lt k hk).2 (by simp)
  obtain ⟨o3, g3⟩ := o2.stored l (.slice (some ⟨B, 0, none⟩) P P)
  have hs2 := hg2.size
  have s3 : (w2.setCell ⟨N, l, none⟩ (.slice (some ⟨B, 0, none⟩) P P)).heap.size = w2.heap.size := by simp [World.setCell]
  have hNB : N ≠ B := by omega
  have blk5 : ∀ k, k < w.heap.size → k ≠ N → w5.heap[k]? = w.heap[k]? := fun k hk hkN => by
    rw [hg5.block k (by omega) (fun e => by cases e; omega), g3.block k (by omega) (fun e => hkN (by cases e; rfl)), hg2.block k hk (by simp)]
  have o5 := own_blk o3 (w' := w5) fun k hk => hg5.block k (o3.lt k hk).2 (fun e => by cases hk; cases e; exact hNB rfl)
  have cN : ∀ k, w5.cell? ⟨N, k, none⟩ = (w2.setCell ⟨N, l, none⟩ (.slice (some ⟨B, 0, none⟩) P P)).cell? ⟨N, k, none⟩ := fun k => by
    simp only [World.cell?]
    rw [hg5.block N (by omega) (fun e => by cases e; omega)]
  have hglt : ∀ k, k < l → g k < w.heap.size := fun k hk => by obtain ⟨cur, e, _⟩ := T.row k hk; exact (Array.getElem?_eq_some_iff.1 e).1
  refine ⟨⟨_, o5⟩, fun k hk => ?_, fun k hk => ?_, fun k hk => ?_, fun k k' hk hk' => ?_, ?_⟩
  · rw [cN k]
    by_cases e : k = l
    · subst e
      simp only [if_true]
      obtain ⟨u, hu⟩ := own_some o2 (j := k) (by have := hown.1; omega)
      rw [World.cell?_setCell_same _ _ _ hu, hP]
    · simp only [if_neg e]
      rw [World.cell?_setCell_other _ _ _ _ (fun e' => e (by injection e' with _ e' _; exact e'.symm))]
      have := T.out k (by omega)
      rw [← this]
      simp only [World.cell?]
      rw [hg2.block N hNlt (by simp)]
  · by_cases e : k = l
    · subst e
      simp only [if_true]
      rcases ho.2 with ⟨h', _⟩ | ⟨g', cap, cur, hv, _, hh, _, _, _, h4⟩
      · cases h'
      · cases hv
        refine ⟨cur, hh, fun s hs => ?_⟩
        have h5 : (cur.toList.take (P * 1))[s]? = (ints (mk1 P P))[s]? := by rw [h4]
        rw [List.getElem?_take_of_lt (by omega), Array.getElem?_toList] at h5
        rw [h5]
        simp [ints, mk1, show s < P by omega]
    · simp only [if_neg e]
      obtain ⟨cur, e1, e2⟩ := T.row k (by omega)
      exact ⟨cur, (blk5 _ (hglt k (by omega)) (by have := T.gt k (by omega); omega)).trans e1, e2⟩
  · by_cases e : k = l
    · subst e; simp only [if_true]; omega
    · simp only [if_neg e]; exact T.gt k (by omega)
  · have hne : k ≠ l := by omega
    simp only [if_neg hne]
    by_cases e : k' = l
    · rw [if_pos e]
      have := hglt k (by omega)
      omega
    · rw [if_neg e]
      exact T.mono k k' hk (by omega)
  · exact ((T.bel.grown hg2 (by omega) (by simp)).setCell (p := ⟨N, l, none⟩) (Nat.le_refl _) _).grown hg5 (by rw [s3]; omega) (fun j hj => by cases hj; omega)
/-- How many strips there are. -/
noncomputable def cntS (h H : Int) : Nat := if inB h 1 4 && inB H 1 30 then vS (wq 0) h.toNat H.toNat H.toNat 0 else 0
theorem inB_ex {h H : Int} (k : (inB h 1 4 && inB H 1 30) = true) : ∃ a b : Nat, h = a ∧ H = b ∧ 1 ≤ a ∧ a ≤ 4 ∧ 1 ≤ b ∧ b ≤ 30 := by
  rw [Bool.and_eq_true] at k
  unfold inB at k
  simp only [Bool.and_eq_true, decide_eq_true_eq] at k
  exact ⟨h.toNat, H.toNat, by omega, by omega, by omega, by omega, by omega, by omega⟩
theorem pw4 {h : Nat} (h1 : 1 ≤ h) (hh : h ≤ 4) : wrap64 ((2 : Int) ^ (2 * h)) = ((4 ^ h : Nat) : Int) ∧ 4 ^ h ≤ 256 ∧ 4 ≤ 4 ^ h := by
  have hh' : h = 1 ∨ h = 2 ∨ h = 3 ∨ h = 4 := by omega
  rcases hh' with rfl | rfl | rfl | rfl <;> exact ⟨by rw [w64 (by decide) (by decide)]; rfl, by decide, by decide⟩
set_option maxRecDepth 100000 in
set_option maxHeartbeats 8000000 in
theorem stWays_any (h H wo : Nat) (h1 : 1 ≤ h) (hh : h ≤ 4) (hH1 : 1 ≤ H) (hH : H ≤ 30) (w : World) :
    Calls Try.prog 52 #[.int .i64 h, .int .i64 H, .int .i64 wo] w fun e w' => ∃ c0 g, e = .returned (.slice (some ⟨w.heap.size, 0, none⟩) (H + 1) c0) ∧ TW w.heap.size wo h H w.heap.size g w' ∧ Below w.heap.size w w' := by
  obtain ⟨i0, hi, hz0, hz1, hz2⟩ := info_parts infoIntY
  obtain ⟨j0, hj, hy0, hy1, hy2⟩ := info_parts infoIntsY
  obtain ⟨hpw, hp256, hp4⟩ := pw4 h1 hh
  obtain ⟨P, hP⟩ : ∃ P, 4 ^ h = P := ⟨_, rfl⟩
  rw [hP] at hpw hp256 hp4
  have HP := Lib.hid hP
  have HPW := Lib.hid hpw
  clear hP hpw
  have q1 : (0 : Int) ≤ 2 * (h : Int) := by omega
  have q2 : 2 * (h : Int) ≤ 64 := by omega
  obtain ⟨N, hN⟩ : ∃ N, w.heap.size = N := ⟨_, rfl⟩
  rw [hN]
  go_enter Try.func52, Try.ntmps52
  go_wp2_with (at_make; refine wpList_make_full _ rfl _ _ 55 rfl w.heap.size 25 j0 (.slice none 0 0) 1 Try.underlying55 hj hy0 hy1 .i64 .i64 ((H : Int) + 1) ((H : Int) + 1) (H + 1) rfl rfl rfl rfl (by rw [hy2]; omega) (by unfold maxLen; omega) (Nat.le_refl _) ?_; intro w1 hown hgrow)
  have hb1 : Below w.heap.size w w1 := (Below.refl _ w).grown hgrow (Nat.le_refl _) (by simp)
  rw [hN] at hown hb1
  (try rw [hN])
  have hT1 : TP N h H 0 (fun _ => 0) w w1 := ⟨⟨_, hown⟩, fun k hk => by omega, fun k hk => by omega, fun k hk => by omega, fun k k' _ hk => by omega, hb1⟩
  clear hown hgrow hb1
  go_loopw [8] (fun lv wr => ∃ (l : Nat) (g : Nat → Nat), l ≤ H + 1 ∧ lv = .int .i64 (l : Int) ∧ TP N h H l g w wr) (fun lv _ => H + 1 - (intOf lv).toNat)
  case atStart => exact ⟨0, _, Nat.zero_le _, rfl, hT1⟩
  case round =>
    obtain ⟨l, g, hl, rfl, hT⟩ := hrel
    clear hT1
    by_cases hlt : l < H + 1
    · have i1 : (l : Int) ≤ (H : Int) := by omega
      have k0 : (0 : Int) ≤ (l : Int) := by omega
      have i2 : (l : Int) < (H : Int) + 1 := by omega
      obtain ⟨xs, hown⟩ := hT.own
      have hxs := hown.1
      obtain ⟨v0, e0⟩ := own_some hown (j := l) (by omega)
      have f0 := hown.frozenAt l
      have hNs := (own_lt hown).2
      have HT := Lib.hid hT
      clear hT hown
      go_wp2_with (at_make; refine wpList_make_full _ rfl _ _ 25 rfl wr.heap.size 3 i0 (.int .i64 0) 1 Try.underlying25 hi hz0 hz1 .i64 .i64 (wrap64 (2 ^ (2 * h))) (wrap64 (2 ^ (2 * h))) P rfl rfl HPW.out HPW.out (by rw [hz2]; omega) (by unfold maxLen; omega) (Nat.le_refl _) ?_; intro w2 hown2 hgrow2; have hb2 : Below wr.heap.size wr w2 := (Below.refl _ wr).grown hgrow2 (Nat.le_refl _) (by simp); have e0 := (hb2.cell (p := ⟨N, l, none⟩) hNs).trans e0; have f0 := (hb2.frozen (p := ⟨N, l, none⟩) hNs).trans f0)
      obtain ⟨B, hB⟩ : ∃ B, B = wr.heap.size := ⟨_, rfl⟩
      obtain ⟨w4, hw4⟩ : ∃ w4, w4 = w2.setCell ⟨N, l, none⟩ (.slice (some ⟨B, 0, none⟩) P P) := ⟨_, rfl⟩
      rw [← hB] at hown2
      have hNB : N < B := by omega
      have o4 : w4.ownsRow B 3 1 (.slice (some ⟨B, 0, none⟩) P P) P (ints (mk1 P 0)) := by
        rw [hw4, mk1_zero, ← made_intsY]
        exact ownsRow_setCell_below hown2 (a := ⟨N, l, none⟩) hNB _
      have cl4 : w4.cell? ⟨N, l, none⟩ = some (.slice (some ⟨B, 0, none⟩) P P) := by rw [hw4]; exact World.cell?_setCell_same _ _ _ e0
      have hs4 : N < w4.heap.size := by rw [hw4]; simp [World.setCell]; have := hb2.size; omega
      have HW4 := Lib.hid hw4
      have HG2 := Lib.hid hgrow2
      rw [← hB, ← hw4]
      have HBQ := Lib.hid hB
      clear hown2 e0 f0 hw4 hgrow2 hb2 hB
      have HO4 := Lib.hid o4
      clear o4
      go_loopw [30] (fun iv w5 => ∃ i : Nat, i ≤ P ∧ iv = .int .i64 (i : Int) ∧ w5.ownsRow B 3 1 (.slice (some ⟨B, 0, none⟩) P P) P (ints (mk1 P i)) ∧ w4.grownBy w5 (some B)) (fun iv _ => P - (intOf iv).toNat)
      case atStart => exact ⟨0, Nat.zero_le _, rfl, HO4.out, grown_refl _ _⟩
      case round =>
        obtain ⟨i, hi', rfl, ho5, hg5⟩ := hrel
        have cl5 := (hg5.cell cl4 (by simp; omega))
        have hil := ho5.1
        by_cases hlt2 : i < P
        · have j1 : (i : Int) < (P : Int) := by omega
          have j0' : (0 : Int) ≤ (i : Int) := by omega
          obtain ⟨v1, e1⟩ := own_some ho5 (j := i) (by omega)
          have f1 := ho5.frozenAt i
          have HO5 := Lib.hid ho5
          clear ho5
          go_wp2_with fail
          obtain ⟨o6, g6⟩ := HO5.out.stored i (.int .i64 (-1))
          rw [← ints_setY, mk1_set] at o6
          have hg6 := grown_trans hg5 g6
          go_roundw
          case rel => exact ⟨i + 1, by omega, by go_num, o6, hg6⟩
          case measure => simp [intOf]; omega
        · obtain rfl : i = P := by omega
          have hT2 := HT.out.next hlt HP.out HBQ.out HG2.out (by rw [← HW4.out]; exact hg5) ho5
          go_wp2_with fail
          go_roundw
          case rel => exact ⟨l + 1, _, by omega, by go_num, hT2⟩
          case measure => simp [intOf]; omega
    · obtain rfl : l = H + 1 := by omega
      have i1 : ¬ ((H + 1 : Nat) : Int) ≤ (H : Int) := by omega
      have hTW := hT.full (wo := wo)
      have C := count_any N wo h H N (H + 1) g h1 hh hH _ H 0 wr (Nat.lt_succ_self _) (Nat.le_refl _) (StS.nil h H (Nat.one_le_pow _ _ (by decide))) hTW
      have HC := Lib.hid C
      have HBE := Lib.hid hT.bel
      clear C hTW hT
      go_wp2_with fail
      refine HC.out.mono ?_
      rintro e w2 ⟨rfl, T2, hb2⟩
      have HT2 := Lib.hid T2
      have HB2 := Lib.hid (HBE.out.trans hb2)
      clear T2 hb2
      go_wp2_with fail
      go_ret
      exact ⟨H + 1, g, rfl, HT2.out, HB2.out⟩
set_option maxRecDepth 100000 in
theorem specCnt_any (h H : Int) (w : World) : Calls Try.prog 15 #[.int .i64 h, .int .i64 H] w fun e w' => e = .returned (.tuple #[.int .i64 ((cntS h H : Nat) : Int), .bool (inB h 1 4 && inB H 1 30)]) ∧ Below w.heap.size w w' := by
  have C := stSize_any h H w
  cases hok : (inB h 1 4 && inB H 1 30) with
  | false =>
    rw [hok] at C
    have e : cntS h H = 0 := by unfold cntS; rw [hok]; rfl
    rw [e]
    clear hok e
    go_enter Try.func15, Try.ntmps15
    go_wp2_with fail
    refine C.mono ?_
    rintro e w' ⟨rfl, rfl⟩
    go_wp2_with fail
    go_ret2
    exact ⟨rfl, Below.refl _ _⟩
  | true =>
    rw [hok] at C
    obtain ⟨a, b, rfl, rfl, ha1, ha4, hb1, hb30⟩ := inB_ex hok
    have e : cntS (a : Int) (b : Int) = vS (wq 0) a b b 0 := by unfold cntS; rw [hok]; rfl
    rw [e]
    have HC := Lib.hid C
    have HA := Lib.hid (stWays_any a b 0 ha1 ha4 hb1 hb30 w)
    have HCA := Lib.hid (fun (N c0 : Nat) (g : Nat → Nat) (W : World) (T : TW N 0 a b N g W) => count_any N 0 a b N c0 g ha1 ha4 hb30 _ b 0 W (Nat.lt_succ_self _) (Nat.le_refl _) (StS.nil a b (Nat.one_le_pow _ _ (by decide))) T)
    clear C hok e
    go_enter Try.func15, Try.ntmps15
    go_wp2_with fail
    refine HC.out.mono ?_
    rintro e w' ⟨rfl, rfl⟩
    go_wp2_with fail
    refine HA.out.mono ?_
    rintro e w2 ⟨c0, g, rfl, T2, hb2⟩
    have HB2 := Lib.hid hb2
    have HC2 := Lib.hid (HCA.out _ c0 g w2 T2)
    clear T2 hb2
    go_wp2_with fail
    refine HC2.out.mono ?_
    rintro e w3 ⟨rfl, T3, hb3⟩
    have HB3 := Lib.hid (HB2.out.trans hb3)
    clear T3 hb3
    go_wp2_with fail
    go_ret2
    exact ⟨rfl, HB3.out⟩
end Go.Proofs.Ytebnekicbcdnaaa
