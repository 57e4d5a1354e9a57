/- The program's recursive filling: one call with room, and the recursion. -/
import Derived.Test.YtchabjmdjpfkfaaFp
import Derived.Deep.DeepCutAuto
set_option linter.all false
namespace Go.Proofs.Ytchabjmdjpfkfaa
open Go.RowKit Go.Shelf

theorem new3F (w : World) (o : Obj) (a b c : Value) (t : TypeId) : ∀ j u, [a, b, c][j]? = some u → ((w.alloc o).alloc (.cells #[a, b, c] t)).cell? ((⟨w.heap.size + 1, 0, none⟩ : Addr).add j) = some u := by
  have h := new3 (w.alloc o) a b c t
  simpa using h
theorem split_range (r i : Nat) (hi : i < r) (g : Nat → List (List Sq)) : ∃ Z, (List.range r).flatMap g = (List.range i).flatMap g ++ g i ++ Z := by
  obtain ⟨d, rfl⟩ : ∃ d, r = i + 1 + d := ⟨r - (i + 1), by omega⟩
  induction d with
  | zero => exact ⟨[], by rw [Nat.add_zero, flatMap_range_succ, List.append_nil]⟩
  | succ d ih =>
    obtain ⟨Z, hZ⟩ := ih (by omega)
    exact ⟨Z ++ g (i + 1 + d), by rw [show i + 1 + (d + 1) = (i + 1 + d) + 1 by omega, flatMap_range_succ, hZ]; simp [List.append_assoc]⟩
theorem step_map (L : List Sq) (x : Nat) (y : Int) (H : Int) (k : Nat) (f : List Int) (i : Nat) : (stepF 6 H k f x y (fills 6 H) i).map (L ++ ·) = (fills 6 H k (liftF f x (i + 1) ((i + 1 : Nat) : Int))).map ((L ++ [⟨(x : Nat), y, ((i + 1 : Nat) : Int)⟩]) ++ ·) := by
  unfold stepF
  rw [List.map_map]
  refine List.map_congr_left fun M _ => ?_
  simp

theorem flat_range_le {α : Type} (g : Nat → List α) {i n : Nat} (h : i ≤ n) : ((List.range i).flatMap g).length ≤ ((List.range n).flatMap g).length := by
  induction n with
  | zero => obtain rfl : i = 0 := by omega
            exact Nat.le_refl _
  | succ n ih =>
    by_cases e : i = n + 1
    · subst e; exact Nat.le_refl _
    · rw [flatMap_range_succ, List.length_append]
      have := ih (by omega)
      omega
set_option maxRecDepth 100000 in
set_option maxHeartbeats 8000000 in
theorem fillOn_node (W : Nat) (H : Int) (l B : Nat) (J Jx : (Nat → Prop) → List CV → World → Prop) (hJ : AbX J) (hJx : AbX Jx) (hW1 : 1 ≤ W) (hW : W ≤ 13) (hH : H ≤ 6) (T : List (List Sq)) (Z : Nat)
    (k : Nat)
    (IH : ∀ (f' : List Int) (L' : List Sq) (A' : Option Addr) (c' : Nat) (X' : Nat → Prop) (pre' : List CV) (w' : World), Fl W H f' → free W H f' ≤ k → L'.length + free W H f' ≤ 36 → (∀ M ∈ fills 6 H k f', L' ++ M ∈ T) → pre'.length + (fills 6 H k f').length ≤ Z → w'.ownsRow B 77 3 (.slice A' L'.length c') L'.length (flat L') →
      (∀ b, (Value.slice A' L'.length c').ownBlock = some b → X' b) → JB J B X' pre' w' → Calls Try.prog 106 #[.agg #[.int .i64 W, .int .i64 H, .slice A' L'.length c'], arr (pad f'), .func (.yield l) #[] #[]] w' (FillPost J Jx B X' pre' L' A' L'.length c' (fills 6 H k f') w'))
    (f : List Int) (x r : Nat) (y : Int) (hf : Fl W H f) (hfr : free W H f ≤ k + 1) (hm : FM f x y) (hr : RM f H x y r) (hr0 : r ≠ 0) (L : List Sq) (A : Option Addr) (c : Nat) (X : Nat → Prop) (pre : List CV) (w : World) (hn36 : L.length + free W H f ≤ 36) (hT : ∀ M ∈ fills 6 H (k + 1) f, L ++ M ∈ T) (hZ : pre.length + (fills 6 H (k + 1) f).length ≤ Z)
    (ho : w.ownsRow B 77 3 (.slice A L.length c) L.length (flat L)) (hA : ∀ b, (Value.slice A L.length c).ownBlock = some b → X b) (hj : JB J B X pre w) :
    Calls Try.prog 106 #[.agg #[.int .i64 W, .int .i64 H, .slice A L.length c], arr (pad f), .func (.yield l) #[] #[]] w (FillPost J Jx B X pre L A L.length c (fills 6 H (k + 1) f) w) := by
  have hflen := hf.len
  have hy0 := hf.lo x y hm.1
  have hrw := hr.w
  have hrh := hr.h
  have hyH := hf.hi x y hm.1
  have hfi : fills 6 H (k + 1) f = (List.range r).flatMap (stepF 6 H k f x y (fills 6 H)) := by
    rw [fills_node hm hr hr0]; congr 2; omega
  have HFI := Lib.hid hfi
  have HT : Hid (∀ i, i < r → ∀ M ∈ fills 6 H k (liftF f x (i + 1) ((i + 1 : Nat) : Int)), (L ++ [(⟨(x : Nat), y, ((i + 1 : Nat) : Int)⟩ : Sq)]) ++ M ∈ T) := Lib.hid (fun i hi M hM => by
    have := hT (⟨(x : Nat), y, ((i + 1 : Nat) : Int)⟩ :: M) (by rw [hfi]; exact List.mem_flatMap.2 ⟨i, List.mem_range.2 hi, List.mem_map.2 ⟨M, hM, rfl⟩⟩)
    simpa using this)
  have HZ : Hid (∀ i, i < r → pre.length + ((List.range i).flatMap (stepF 6 H k f x y (fills 6 H))).length + (fills 6 H k (liftF f x (i + 1) ((i + 1 : Nat) : Int))).length ≤ Z) := Lib.hid (fun i hi => by
    have h1 := flat_range_le (stepF 6 H k f x y (fills 6 H)) (show i + 1 ≤ r by omega)
    rw [flatMap_range_succ, List.length_append] at h1
    have h2 : (stepF 6 H k f x y (fills 6 H) i).length = (fills 6 H k (liftF f x (i + 1) ((i + 1 : Nat) : Int))).length := by simp [stepF]
    rw [hfi] at hZ
    omega)
  clear hfi hT hZ
  have hpl := pad_len (f := f) (by omega)
  obtain ⟨g0, g1, g2, g3, g4, g5, g6, g7, g8, g9, g10, g11, g12, hg⟩ := len13 hpl
  have harr : arr (pad f) = .agg #[.int .i64 g0, .int .i64 g1, .int .i64 g2, .int .i64 g3, .int .i64 g4, .int .i64 g5, .int .i64 g6, .int .i64 g7, .int .i64 g8, .int .i64 g9, .int .i64 g10, .int .i64 g11, .int .i64 g12] := by rw [hg]; rfl
  have hbd : ∀ (i : Nat) u, (pad f)[i]? = some u → 0 ≤ u ∧ u ≤ 500 := by
    intro i u hu
    unfold pad at hu
    rw [List.getElem?_append] at hu
    split at hu
    · have := hf.lo i u hu; have := hf.hi i u hu; omega
    · rw [List.getElem?_replicate] at hu
      split at hu <;> cases hu; omega
  have HR : ∀ (s : Nat), s ≤ r → ∀ w', Calls Try.prog 142 #[.agg #[.int .i64 g0, .int .i64 g1, .int .i64 g2, .int .i64 g3, .int .i64 g4, .int .i64 g5, .int .i64 g6, .int .i64 g7, .int .i64 g8, .int .i64 g9, .int .i64 g10, .int .i64 g11, .int .i64 g12], .agg #[.int .i64 x, .int .i64 y, .int .i64 s]] w' fun e w'' => e = .returned (arr (pad (liftF f x s s))) ∧ Below w'.heap.size w' w'' := by
    intro s hs w'
    have := raised_any (pad f) x s y hpl (by omega) hbd w'
    rwa [harr, pad_lift (by omega)] at this
  obtain ⟨W1, hW1e⟩ : ∃ W1, W1 = (w.alloc (.cells #[.int .i64 W, .int .i64 H, .slice A L.length c] 50)).alloc (.cells #[.int .i64 g0, .int .i64 g1, .int .i64 g2, .int .i64 g3, .int .i64 g4, .int .i64 g5, .int .i64 g6, .int .i64 g7, .int .i64 g8, .int .i64 g9, .int .i64 g10, .int .i64 g11, .int .i64 g12] 112) := ⟨_, rfl⟩
  have K1 : FB w W H (.slice A L.length c) [g0, g1, g2, g3, g4, g5, g6, g7, g8, g9, g10, g11, g12] W1 := by rw [hW1e]; exact FB.start w W H _ [g0, g1, g2, g3, g4, g5, g6, g7, g8, g9, g10, g11, g12]
  have G1 : w.grownBy W1 none := by rw [hW1e]; exact (World.grownBy_alloc _ _ none).trans (World.grownBy_alloc _ _ none)
  have CF := free_later hf hW1 hW (by omega) hm hr hg K1.l K1.sz
  have W13 : (W : Int) ≤ 13 := by omega
  have K1c0 := fun u : Later W1.heap.size W1 => (K1.below u.ok).c0
  have K1c1 := fun u : Later W1.heap.size W1 => (K1.below u.ok).c1
  rw [harr]
  have HIH := Lib.hid IH
  have HHR := Lib.hid HR
  have HF := Lib.hid hf
  have HM := Lib.hid hm
  have HRM := Lib.hid hr
  have hX : ∀ k, X k → k < w.heap.size := fun k hk => (hj.x k hk).2
  have hBw := hj.b
  have HK1 := Lib.hid K1
  have HG1 := Lib.hid G1
  clear IH HR hg harr hbd hpl hf hm hr K1 G1
  go_enter Try.func106, Try.ntmps106
  go_wp2_with fail
  rw [← hW1e]
  refine wp_region_sub W1.heap.size (by kernel_rfl) (by kernel_rfl) ?_
  repeat (first | go_big_quiet_step ((go_at_call 140; exact sub_same _ (CF _))) | quiet_step ((go_at_call 140; exact sub_same _ (CF _))))
  refine wpQuiet_nil ?_
  rintro w2 ⟨uu, hu⟩; have hb2 := uu.ok; rw [← hu] at hb2; clear hu uu
  have K1 := HK1.out
  have G1 := HG1.out
  clear K1c0 K1c1
  have K2 := K1.below hb2
  have G2 := G1.trans (grown_belowF hb2)
  have sz2 := K2.sz
  have O2 : FO J B w X (pre ++ []) L A c W H (.slice A L.length c) [g0, g1, g2, g3, g4, g5, g6, g7, g8, g9, g10, g11, g12] (newX X w w2) w2 := ⟨K2, by rw [List.append_nil]; exact hj.grow hJ G2 (fun r e => by cases e), fun k hk => .inl hk, .inr ⟨Nat.le_refl _, by omega⟩, .inr ⟨by omega, by omega⟩,
    own_of_block ho (fun k hk => G2.block k (hX k (hA k hk)) (by simp)), fun k hk _ => G2.block k (hX k hk) (by simp)⟩
  clear CF hW1e K1 G1 hb2 ho G2
  obtain ⟨c0, c1, c2, cf, _, _⟩ := id K2
  have r0 : ((r : Int) == 0) = false := by rw [beq_eq_false_iff_ne]; omega
  have HO2 := Lib.hid O2
  clear K2 O2
  go_wp2_with fail
  clear c0 c1 c2 cf r0
  go_loopw [11] (fun v wr => ∃ (i : Nat) (Xr : Nat → Prop) (ys : List CV) (sl : Value), i ≤ r ∧ v = .int .i64 ((i + 1 : Nat) : Int) ∧ ys.map (·.1) = ((List.range i).flatMap (stepF 6 H k f x y (fills 6 H))).map (L ++ ·) ∧ w2.heap.size ≤ wr.heap.size ∧ FO J B w X (pre ++ ys) L A c W H sl [g0, g1, g2, g3, g4, g5, g6, g7, g8, g9, g10, g11, g12] Xr wr) (fun v _ => r + 1 - (intOf v).toNat)
  case atStart => exact ⟨0, _, [], _, by omega, rfl, rfl, Nat.le_refl _, HO2.out⟩
  case round =>
    obtain ⟨i, Xr, ys, sl, hi, rfl, hys, hsz, hO⟩ := hrel
    have HYS := Lib.hid hys
    clear hys
    by_cases hir : i < r
    · have i1 : ((i + 1 : Nat) : Int) ≤ (r : Int) := by omega
      obtain ⟨i0, hinf, hz0, hz1, hz2⟩ := info_parts infoSq
      obtain ⟨c0, c1, c2, cf, hl, sz⟩ := id hO.fb
      have cf2 := cf 2
      have hO2 := hO.own
      have hfn := free_next HF.out HM.out HRM.out (s := i + 1) (by omega)
      have h11 : 1 ≤ (i + 1) * (i + 1) := Nat.mul_pos (by omega) (by omega)
      have hn1 : L.length + 1 ≤ maxLen := by unfold maxLen; omega
      have hn2 : (L.length + 1) * 24 ≤ 140737488355328 := by omega
      have hBr := hO.j.b
      have HFN := Lib.hid hfn
      obtain ⟨wt, hwt⟩ : ∃ wt, wt = (wr.alloc (.cells #[.int .i64 x, .int .i64 y, .int .i64 ((i : Int) + 1)] 77)).alloc (.cells #[.int .i64 x, .int .i64 y, .int .i64 ((i : Int) + 1)] 77) := ⟨_, rfl⟩
      have hbt : Below wr.heap.size wr wt := by rw [hwt]; exact ((Below.refl _ _).alloc (Nat.le_refl _) _).alloc (by simp) _
      have hzt : wt.heap.size = wr.heap.size + 2 := by rw [hwt]; simp
      have tc : wt.cell? ⟨wr.heap.size, 0, none⟩ = some (.int .i64 x) ∧ wt.cell? ⟨wr.heap.size, 1, none⟩ = some (.int .i64 y) ∧ wt.cell? ⟨wr.heap.size, 2, none⟩ = some (.int .i64 ((i : Int) + 1)) := by
        rw [hwt]
        refine ⟨?_, ?_, ?_⟩ <;> (rw [World.cell?_alloc_lt _ _ _ (by simp)]; simp [go_sem])
      have hneN : some w.heap.size ≠ (Value.slice A L.length c).ownBlock := fun e => by have := hX _ (hA _ e.symm); omega
      clear hl cf hfn
      go_wp2_with (at_builtin; refine app_list2 rfl _ _ _ rfl B 77 i0 (.agg #[.int .i64 0, .int .i64 0, .int .i64 0]) 3 24 Try.underlying48 hinf hz0 hz1 hz2 rfl (by decide) A L.length c _ rfl ((hO2.alloc _).alloc _) ⟨wr.heap.size + 1, 0, none⟩ 1 1 [.int .i64 x, .int .i64 y, .int .i64 ((i : Int) + 1)] (by decide) rfl rfl (new3F _ _ _ _ _ _) (one3 _ _ _) hn1 hn2 (by simp; omega) ?_; intro A6 c6 w6 hown6 hc6; rw [← hwt] at hc6; have hk6 := (AppC.block (L := L) hc6 (k := w.heap.size) (by omega) hneN).trans (hbt.block w.heap.size (by omega)); have s2 := (World.cell?_of_block (a := ⟨w.heap.size, 2, none⟩) hk6).trans c2; have t2 := (World.frozen?_of_block (a := ⟨w.heap.size, 2, none⟩) hk6).trans cf2; clear hk6)
      have hAC : AppC A L.length c A6 c6 wt w6 := hc6
      obtain ⟨X7, hp⟩ := hO.push (q := (⟨(x : Nat), y, ((i + 1 : Nat) : Int)⟩ : Sq)) hJ hA hX hbt hown6 hAC
      obtain ⟨w7, hw7⟩ : ∃ w7, w7 = w6.setCell ⟨w.heap.size, 2, none⟩ (.slice A6 (L.length + 1) c6) := ⟨_, rfl⟩
      rw [← hw7] at hp ⊢
      have kM := hp.kt wr.heap.size (Nat.le_refl _) (by omega)
      obtain ⟨tc0, tc1, tc2⟩ := tc
      have m0 := (World.cell?_of_block (a := ⟨wr.heap.size, 0, none⟩) kM).trans tc0
      have m1 := (World.cell?_of_block (a := ⟨wr.heap.size, 1, none⟩) kM).trans tc1
      have m2 := (World.cell?_of_block (a := ⟨wr.heap.size, 2, none⟩) kM).trans tc2
      have hM7 : wr.heap.size < w7.heap.size := World.block_lt_of_cell? _ _ m0
      have fb7 := hp.fb
      have HS : ∀ w', Below w7.heap.size w7 w' → w'.cell? ⟨w.heap.size, 0, none⟩ = some (.int .i64 W) ∧ w'.cell? ⟨w.heap.size, 1, none⟩ = some (.int .i64 H) ∧ w'.cell? ⟨w.heap.size, 2, none⟩ = some (.slice A6 (L.length + 1) c6) ∧ w'.cell? ⟨w.heap.size + 1, 0, none⟩ = some (.int .i64 g0) ∧ w'.cell? ⟨w.heap.size + 1, 1, none⟩ = some (.int .i64 g1) ∧ w'.cell? ⟨w.heap.size + 1, 2, none⟩ = some (.int .i64 g2) ∧ w'.cell? ⟨w.heap.size + 1, 3, none⟩ = some (.int .i64 g3) ∧ w'.cell? ⟨w.heap.size + 1, 4, none⟩ = some (.int .i64 g4) ∧ w'.cell? ⟨w.heap.size + 1, 5, none⟩ = some (.int .i64 g5) ∧ w'.cell? ⟨w.heap.size + 1, 6, none⟩ = some (.int .i64 g6) ∧ w'.cell? ⟨w.heap.size + 1, 7, none⟩ = some (.int .i64 g7) ∧ w'.cell? ⟨w.heap.size + 1, 8, none⟩ = some (.int .i64 g8) ∧ w'.cell? ⟨w.heap.size + 1, 9, none⟩ = some (.int .i64 g9) ∧ w'.cell? ⟨w.heap.size + 1, 10, none⟩ = some (.int .i64 g10) ∧ w'.cell? ⟨w.heap.size + 1, 11, none⟩ = some (.int .i64 g11) ∧ w'.cell? ⟨w.heap.size + 1, 12, none⟩ = some (.int .i64 g12) ∧ w'.cell? ⟨wr.heap.size, 0, none⟩ = some (.int .i64 x) ∧ w'.cell? ⟨wr.heap.size, 1, none⟩ = some (.int .i64 y) ∧ w'.cell? ⟨wr.heap.size, 2, none⟩ = some (.int .i64 ((i : Int) + 1)) := fun w' hb => by
        have K := hp.fb.below hb
        have hl := K.l
        exact ⟨K.c0, K.c1, K.c2, hl 0 _ rfl, hl 1 _ rfl, hl 2 _ rfl, hl 3 _ rfl, hl 4 _ rfl, hl 5 _ rfl, hl 6 _ rfl, hl 7 _ rfl, hl 8 _ rfl, hl 9 _ rfl, hl 10 _ rfl, hl 11 _ rfl, hl 12 _ rfl, (hb.cell (p := ⟨wr.heap.size, 0, none⟩) hM7).trans m0, (hb.cell (p := ⟨wr.heap.size, 1, none⟩) hM7).trans m1, (hb.cell (p := ⟨wr.heap.size, 2, none⟩) hM7).trans m2⟩
      have HS9 : ∀ (w8 W9 : World), Below w7.heap.size w7 w8 → w8.heap.size ≤ W9.heap.size → (∀ k, newX X7 w7 w8 k → some k ≠ (Value.slice A6 (L.length + 1) c6).ownBlock → W9.heap[k]? = w8.heap[k]?) → W9.cell? ⟨w.heap.size, 0, none⟩ = some (.int .i64 W) ∧ W9.cell? ⟨w.heap.size, 1, none⟩ = some (.int .i64 H) ∧ W9.cell? ⟨w.heap.size, 2, none⟩ = some (.slice A6 (L.length + 1) c6) ∧ W9.cell? ⟨w.heap.size + 1, 0, none⟩ = some (.int .i64 g0) ∧ W9.cell? ⟨w.heap.size + 1, 1, none⟩ = some (.int .i64 g1) ∧ W9.cell? ⟨w.heap.size + 1, 2, none⟩ = some (.int .i64 g2) ∧ W9.cell? ⟨w.heap.size + 1, 3, none⟩ = some (.int .i64 g3) ∧ W9.cell? ⟨w.heap.size + 1, 4, none⟩ = some (.int .i64 g4) ∧ W9.cell? ⟨w.heap.size + 1, 5, none⟩ = some (.int .i64 g5) ∧ W9.cell? ⟨w.heap.size + 1, 6, none⟩ = some (.int .i64 g6) ∧ W9.cell? ⟨w.heap.size + 1, 7, none⟩ = some (.int .i64 g7) ∧ W9.cell? ⟨w.heap.size + 1, 8, none⟩ = some (.int .i64 g8) ∧ W9.cell? ⟨w.heap.size + 1, 9, none⟩ = some (.int .i64 g9) ∧ W9.cell? ⟨w.heap.size + 1, 10, none⟩ = some (.int .i64 g10) ∧ W9.cell? ⟨w.heap.size + 1, 11, none⟩ = some (.int .i64 g11) ∧ W9.cell? ⟨w.heap.size + 1, 12, none⟩ = some (.int .i64 g12) ∧ W9.cell? ⟨wr.heap.size, 0, none⟩ = some (.int .i64 x) ∧ W9.cell? ⟨wr.heap.size, 1, none⟩ = some (.int .i64 y) ∧ W9.cell? ⟨wr.heap.size, 2, none⟩ = some (.int .i64 ((i : Int) + 1)) := fun w8 W9 hb hs9 hk9 => by
        have K := (hp.fb.below hb).keep hs9 (hk9 _ (.inl (hp.xr _ hO.xn)) (fun e => (hp.xo _ e.symm).2.1 rfl)) (hk9 _ (.inl (hp.xr _ hO.xm)) (fun e => (hp.xo _ e.symm).2.2 rfl))
        have hl := K.l
        have xt := hp.xt wr.heap.size (Nat.le_refl _) (by omega)
        have kq := (hk9 wr.heap.size (.inl xt.1) xt.2).trans (hb.block wr.heap.size hM7)
        exact ⟨K.c0, K.c1, K.c2, hl 0 _ rfl, hl 1 _ rfl, hl 2 _ rfl, hl 3 _ rfl, hl 4 _ rfl, hl 5 _ rfl, hl 6 _ rfl, hl 7 _ rfl, hl 8 _ rfl, hl 9 _ rfl, hl 10 _ rfl, hl 11 _ rfl, hl 12 _ rfl, (World.cell?_of_block (a := ⟨wr.heap.size, 0, none⟩) kq).trans m0, (World.cell?_of_block (a := ⟨wr.heap.size, 1, none⟩) kq).trans m1, (World.cell?_of_block (a := ⟨wr.heap.size, 2, none⟩) kq).trans m2⟩
      have CR : ∀ w', Calls Try.prog 142 #[.agg #[.int .i64 g0, .int .i64 g1, .int .i64 g2, .int .i64 g3, .int .i64 g4, .int .i64 g5, .int .i64 g6, .int .i64 g7, .int .i64 g8, .int .i64 g9, .int .i64 g10, .int .i64 g11, .int .i64 g12], .agg #[.int .i64 x, .int .i64 y, .int .i64 ((i : Int) + 1)]] w' fun e w'' => e = .returned (arr (pad (liftF f x (i + 1) ((i + 1 : Nat) : Int)))) ∧ Below w'.heap.size w' w'' := fun w' => HHR.out (i + 1) (by omega) w'
      have hfl7 := (HF.out.next HM.out HRM.out (s := i + 1) (by omega)).1
      have hpo : w7.ownsRow B 77 3 (.slice A6 (L ++ [(⟨(x : Nat), y, ((i + 1 : Nat) : Int)⟩ : Sq)]).length c6) (L ++ [(⟨(x : Nat), y, ((i + 1 : Nat) : Int)⟩ : Sq)]).length (flat (L ++ [(⟨(x : Nat), y, ((i + 1 : Nat) : Int)⟩ : Sq)])) := by
        rw [List.length_append]; exact hp.own
      have CI : ∀ w8, (hb : Below w7.heap.size w7 w8) → Calls Try.prog 106 #[.agg #[.int .i64 W, .int .i64 H, .slice A6 (L.length + 1) c6], arr (pad (liftF f x (i + 1) ((i : Int) + 1))), .func (.yield l) #[] #[]] w8 (FillPost J Jx B (newX X7 w7 w8) (pre ++ ys) (L ++ [(⟨(x : Nat), y, ((i + 1 : Nat) : Int)⟩ : Sq)]) A6 (L.length + 1) c6 (fills 6 H k (liftF f x (i + 1) ((i + 1 : Nat) : Int))) w8) := by
        intro w8 hb
        have := HIH.out (liftF f x (i + 1) ((i + 1 : Nat) : Int)) (L ++ [(⟨(x : Nat), y, ((i + 1 : Nat) : Int)⟩ : Sq)]) A6 c6 (newX X7 w7 w8) (pre ++ ys) w8 hfl7 (by have := HFN.out; omega) (by rw [List.length_append]; have := HFN.out; simp only [List.length_cons, List.length_nil]; omega) (HT.out i hir) (by have h1 := HZ.out i hir; have h2 := congrArg List.length HYS.out; simp only [List.length_map] at h2; rw [List.length_append, h2]; omega) (own_of_block hpo (fun b hb' => hb.block b (hp.j.x b (hp.xo b ((ob_len _ _ _ _).trans hb')).1).2)) (fun b hb' => .inl (hp.xo b ((ob_len _ _ _ _).trans hb')).1) (hp.j.grow hJ (grown_belowF hb) (fun r e => by cases e))
        rw [List.length_append] at this
        exact this
      have HCI := Lib.hid CI
      have HP := Lib.hid hp
      have HO := Lib.hid hO
      have HAC := Lib.hid hAC
      have HBT := Lib.hid hbt
      clear CI hp hO hAC hbt hc6 hown6 hw7 hwt tc0 tc1 tc2 kM c0 c1 c2 cf2 s2 t2 hO2 hfl7 hpo hzt fb7
      refine wp_region_top 7 (fun w' => w'.cell? ⟨w.heap.size, 0, none⟩ = some (.int .i64 W) ∧ w'.cell? ⟨w.heap.size, 1, none⟩ = some (.int .i64 H) ∧ w'.cell? ⟨w.heap.size, 2, none⟩ = some (.slice A6 (L.length + 1) c6) ∧ w'.cell? ⟨w.heap.size + 1, 0, none⟩ = some (.int .i64 g0) ∧ w'.cell? ⟨w.heap.size + 1, 1, none⟩ = some (.int .i64 g1) ∧ w'.cell? ⟨w.heap.size + 1, 2, none⟩ = some (.int .i64 g2) ∧ w'.cell? ⟨w.heap.size + 1, 3, none⟩ = some (.int .i64 g3) ∧ w'.cell? ⟨w.heap.size + 1, 4, none⟩ = some (.int .i64 g4) ∧ w'.cell? ⟨w.heap.size + 1, 5, none⟩ = some (.int .i64 g5) ∧ w'.cell? ⟨w.heap.size + 1, 6, none⟩ = some (.int .i64 g6) ∧ w'.cell? ⟨w.heap.size + 1, 7, none⟩ = some (.int .i64 g7) ∧ w'.cell? ⟨w.heap.size + 1, 8, none⟩ = some (.int .i64 g8) ∧ w'.cell? ⟨w.heap.size + 1, 9, none⟩ = some (.int .i64 g9) ∧ w'.cell? ⟨w.heap.size + 1, 10, none⟩ = some (.int .i64 g10) ∧ w'.cell? ⟨w.heap.size + 1, 11, none⟩ = some (.int .i64 g11) ∧ w'.cell? ⟨w.heap.size + 1, 12, none⟩ = some (.int .i64 g12) ∧ w'.cell? ⟨wr.heap.size, 0, none⟩ = some (.int .i64 x) ∧ w'.cell? ⟨wr.heap.size, 1, none⟩ = some (.int .i64 y) ∧ w'.cell? ⟨wr.heap.size, 2, none⟩ = some (.int .i64 ((i : Int) + 1))) (by kernel_rfl) (HS _ ((Below.refl _ _).drew)) (fun hHeld => ?_)
      refine wpTop.take 0 (v := ?_) rfl (by kernel_rfl) (by kernel_rfl) (by kernel_rfl) (by kernel_rfl) (fun _ _ _ h => h) (Or.inl ⟨by rfl, ?_⟩) (by assumption) ?_
      rotate_left
      · intro w hSw; (try dsimp only at hSw); go_simp; try (with_reducible rfl)
      try simp only [Act.put, List.setIfInBounds_toArray, List.set_cons_zero, List.set_cons_succ, List.getElem_toArray, List.getElem_cons_zero, List.getElem_cons_succ]
      refine wpTop.take 1 (v := ?_) rfl (by kernel_rfl) (by kernel_rfl) (by kernel_rfl) (by kernel_rfl) (fun _ _ _ h => h) (Or.inl ⟨by rfl, ?_⟩) (by assumption) ?_
      rotate_left
      · intro w hSw; (try dsimp only at hSw); go_simp; try (with_reducible rfl)
      try simp only [Act.put, List.setIfInBounds_toArray, List.set_cons_zero, List.set_cons_succ, List.getElem_toArray, List.getElem_cons_zero, List.getElem_cons_succ]
      refine wpTop.take 2 (v := ?_) rfl (by kernel_rfl) (by kernel_rfl) (by kernel_rfl) (by kernel_rfl) (fun _ _ _ h => h) (Or.inl ⟨by rfl, ?_⟩) (by assumption) ?_
      rotate_left
      · intro w hSw; (try dsimp only at hSw); go_simp; try (with_reducible rfl)
      try simp only [Act.put, List.setIfInBounds_toArray, List.set_cons_zero, List.set_cons_succ, List.getElem_toArray, List.getElem_cons_zero, List.getElem_cons_succ]
      refine wpTop.take 4 (v := ?_) rfl (by kernel_rfl) (by kernel_rfl) (by kernel_rfl) (by kernel_rfl) (fun _ _ _ h => h) (Or.inl ⟨by rfl, ?_⟩) (by assumption) ?_
      rotate_left
      · intro w hSw; (try dsimp only at hSw); go_simp; try (with_reducible rfl)
      try simp only [Act.put, List.setIfInBounds_toArray, List.set_cons_zero, List.set_cons_succ, List.getElem_toArray, List.getElem_cons_zero, List.getElem_cons_succ]
      refine wpTop.one 3 rfl (by kernel_rfl) (fun K hK => ?_)
      go_simp
      (with_reducible refine (CR _).mono ?_)
      rintro e w8 ⟨rfl, hb8'⟩
      have hb8 : Below w7.heap.size w7 w8 := ((Below.refl w7.heap.size w7).drew).trans hb8'
      refine hK.out _ _ (fun _ => HS _ hb8) (fun hH => ?_)
      clear hK K
      have hHeld := hH (by decide)
      clear hH
      try simp only [Act.put, List.setIfInBounds_toArray, List.set_cons_zero, List.set_cons_succ, List.getElem_toArray, List.getElem_cons_zero, List.getElem_cons_succ]
      refine wpTop.one 5 rfl (by kernel_rfl) (fun K hK => ?_)
      go_simp
      (with_reducible refine (HCI.out _ hb8).mono ?_)
      rintro e w9 (⟨rfl, X9, ys9, hx9, hm9, hj9, hs9, hk9, ho9⟩ | ⟨rfl, X9, ys9, zs9, hm9, hj9, hs9, hk9⟩)
      · have S9 := HS9 _ w9 hb8 hs9 hk9
        refine hK.out _ _ (fun _ => S9) (fun hH => ?_)
        clear hK K
        have hHeld := hH (by decide)
        clear hH
        try simp only [Act.put, List.setIfInBounds_toArray, List.set_cons_zero, List.set_cons_succ, List.getElem_toArray, List.getElem_cons_zero, List.getElem_cons_succ]
        refine wpTop.one 6 rfl (by kernel_rfl) (fun K hK => ?_)
        go_simp

        refine hK.out _ _ (fun _ => S9) (fun hH => ?_)
        clear hK K
        clear hH
        try simp only [Act.put, List.setIfInBounds_toArray, List.set_cons_zero, List.set_cons_succ, List.getElem_toArray, List.getElem_cons_zero, List.getElem_cons_succ]
        refine wpTop.all (by kernel_rfl) ?_ _
        have hsz9 : w2.heap.size ≤ w9.heap.size := by have := HP.out.sz; have := hb8.size; omega
        have HB8 := Lib.hid hb8
        clear hb8 HS HS9
        go_wp2_with fail
        go_roundw
        case rel =>
          refine ⟨i + 1, X9, ys ++ ys9, .slice A6 (L.length + 1) c6, by omega, by go_num, ?_, hsz9, ?_⟩
          · rw [List.map_append, HYS.out, hm9, flatMap_range_succ, List.map_append, step_map]
          · rw [← List.append_assoc]
            exact HO.out.back hA hX HAC.out HBT.out.size HP.out HB8.out (fun k hk => .inl hk) hx9 hj9 hs9 hk9 ho9
        case measure => simp [intOf]; omega
      · have S9 := HS9 _ w9 hb8 hs9 hk9
        refine hK.out _ _ (fun _ => S9) (fun hH => ?_)
        clear hK K
        have hHeld := hH (by decide)
        clear hH
        try simp only [Act.put, List.setIfInBounds_toArray, List.set_cons_zero, List.set_cons_succ, List.getElem_toArray, List.getElem_cons_zero, List.getElem_cons_succ]
        refine wpTop.one 6 rfl (by kernel_rfl) (fun K hK => ?_)
        go_simp

        refine hK.out _ _ (fun _ => S9) (fun hH => ?_)
        clear hK K
        clear hH
        try simp only [Act.put, List.setIfInBounds_toArray, List.set_cons_zero, List.set_cons_succ, List.getElem_toArray, List.getElem_cons_zero, List.getElem_cons_succ]
        refine wpTop.all (by kernel_rfl) ?_ _
        have hszw : w.heap.size ≤ w9.heap.size := by have := HP.out.sz; have := hb8.size; omega
        have HB8 := Lib.hid hb8
        clear hb8 HS HS9
        go_wp2_with fail
        go_ret
        obtain ⟨Z, hZ⟩ := split_range r i hir (stepF 6 H k f x y (fills 6 H))
        refine .inr ⟨rfl, X9, ys ++ ys9, zs9 ++ Z.map (L ++ ·), ?_, by rw [← List.append_assoc]; exact hj9, hszw, HO.out.kept hA hX HAC.out HBT.out.size HP.out HB8.out (fun k hk => .inl hk) hk9⟩
        rw [HFI.out, hZ, List.map_append, List.map_append, List.map_append, HYS.out, step_map, ← hm9]
        simp only [List.append_assoc]
    · obtain rfl : i = r := by omega
      have i1 : ¬ ((i + 1 : Nat) : Int) ≤ (i : Int) := by omega
      have HO := Lib.hid hO
      clear hO
      go_wp2_with fail
      go_ret
      exact .inl ⟨rfl, Xr, ys, HO.out.xx, by rw [HFI.out, HYS.out], HO.out.j, by have := HO.out.fb.sz; omega, HO.out.kb, HO.out.own⟩
end Go.Proofs.Ytchabjmdjpfkfaa
