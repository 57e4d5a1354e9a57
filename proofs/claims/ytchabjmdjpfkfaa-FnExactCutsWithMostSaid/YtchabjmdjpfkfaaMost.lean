/- The cuts whose sides are not too great: the program's count and the model's. -/
import Derived.Test.YtchabjmdjpfkfaaSumL
import Derived.Test.YtchabjmdjpfkfaaCnt
import Derived.Test.YtchabjmdjpfkfaaLnD
import Derived.Shelf.RegionOpen
set_option linter.all false
namespace Go.Proofs.Ytchabjmdjpfkfaa
open Go.RowKit Go.Shelf
attribute [local go_sem] Oper.semAt_some

open Go.Lib
def mostB (m : Int) (s : Sq) : Bool := decide (m < s.d)
def allB (m : Int) (L : List Sq) : Bool := L.all fun s => decide (s.d ≤ m)
theorem all_any (m : Int) (L : List Sq) : (!L.any (mostB m)) = allB m L := by
  unfold allB
  induction L with
  | nil => rfl
  | cons s r ih =>
    simp only [List.any_cons, List.all_cons, Bool.not_or, ih]
    congr 1
    unfold mostB
    by_cases h : m < s.d
    · rw [decide_eq_true h, decide_eq_false (by omega)]; rfl
    · rw [decide_eq_false h, decide_eq_true (by omega)]; rfl
theorem most_pred (m : Int) (B : Nat) (w : World) (hB : B < w.heap.size) (hcell : w.cell? ⟨B, 0, none⟩ = some (.int .i64 m)) :
    PredBelow Try.prog 60 #[.pointer (some ⟨B, 0, none⟩)] (fun s => .agg (encS s).toArray) (mostB m) w := fun W s hb => by
  have hc : W.cell? ⟨B, 0, none⟩ = some (.int .i64 m) := (hb.cell (p := ⟨B, 0, none⟩) hB).trans hcell
  have hBW : B < W.heap.size := Nat.lt_of_lt_of_le hB hb.size
  have hne : B ≠ W.heap.size := by omega
  show Calls Try.prog 60 #[.agg #[.int .i64 s.x, .int .i64 s.y, .int .i64 s.d], .pointer (some ⟨B, 0, none⟩)] W _
  unfold mostB
  go_enter Try.func60, Try.ntmps60
  go_wp2
  go_ret
  exact ⟨rfl, hb.alloc hb.size _⟩
set_option maxRecDepth 100000 in
theorem mostIs_any (W H m : Int) (L : List Sq) (A : Option Addr) (c B : Nat) (w : World) (h0 : 0 < L.length) (hl : L.length ≤ 1000) (hB : B < w.heap.size) (hcell : w.cell? ⟨B, 0, none⟩ = some (.int .i64 m)) (hL : SqsAt w w.heap.size A L) :
    Calls Try.prog 58 #[.agg #[.int .i64 W, .int .i64 H, .slice A L.length c], .pointer (some ⟨B, 0, none⟩)] w fun e w' => e = .returned (.bool (allB m L)) ∧ Below w.heap.size w w' := by
  have eg : ∀ args w, (callFunc 60 args).run Try.prog w = .ok (.enter 60 args) w := enters_of Try.func60 (by kernel_rfl) rfl
  obtain ⟨s0, hs0⟩ : ∃ s, L[0]? = some s := ⟨_, List.getElem?_eq_getElem (by omega)⟩
  obtain ⟨b, off, rfl, hb, _⟩ := hL 0 s0 hs0
  obtain ⟨w1, hw1⟩ : ∃ w1, w1 = w.alloc (.cells #[.int .i64 W, .int .i64 H, .slice (some ⟨b, off, none⟩) L.length c] 50) := ⟨_, rfl⟩
  have hb1 : Below w.heap.size w w1 := by rw [hw1]; exact (Below.refl _ _).alloc (Nat.le_refl _) _
  have hL1 := (hL.below hb1).mono hb1.size
  have hc1 := (hb1.cell (p := ⟨B, 0, none⟩) hB).trans hcell
  have hcon := AnyQ.slices_ContainsFunc contSq 3 (fun _ => by kernel_rfl) (fun _ => by kernel_rfl) encS (fun _ => rfl) (mostB m) 60 #[.pointer (some ⟨B, 0, none⟩)] eg b off L.length c L w1
    (most_pred m B w1 (Nat.lt_of_lt_of_le hB hb1.size) hc1) (Nat.le_refl _) (by omega) (Nat.lt_of_lt_of_le hb hb1.size) (fun j hj i v hi => by
      obtain ⟨b', off', he, _, c0, c1, c2⟩ := hL1 j L[j]! (by simp [hj])
      cases he
      generalize L[j]! = y at hi c0 c1 c2
      match i, hi with
      | 0, hi => simp [encS] at hi; rw [← hi]; exact c0
      | 1, hi => simp [encS] at hi; rw [← hi]; exact c1
      | 2, hi => simp [encS] at hi; rw [← hi]; exact c2
      | i + 3, hi => simp [encS] at hi)
  rw [List.take_of_length_le (Nat.le_refl _)] at hcon
  have HA := Lib.hid (all_any m L)
  obtain ⟨v, hv⟩ : ∃ v, L.any (mostB m) = v := ⟨_, rfl⟩
  rw [hv] at hcon HA
  have HC := Lib.hid hcon
  clear hcon hL hL1 hs0 h0 hl hv
  go_enter Try.func58, Try.ntmps58
  go_wp2_with fail
  rw [← hw1]
  refine HC.out.mono ?_
  rintro e w2 ⟨rfl, hb2⟩
  clear hw1
  go_wp2_with fail
  go_ret
  exact ⟨by rw [← HA.out]; simp, hb1.trans (hb2.mono hb1.size)⟩
set_option maxRecDepth 100000 in
theorem mostOne_any (W H m : Int) (L : List Sq) (A : Option Addr) (c B Bi : Nat) (w : World) (h0 : 0 < L.length) (hl : L.length ≤ 1000) (hcell : w.cell? ⟨B, 0, none⟩ = some (.int .i64 m)) (hi : w.cell? ⟨Bi, 0, none⟩ = some (.func (.func 58) #[] #[.pointer (some ⟨B, 0, none⟩)])) (hL : SqsAt w w.heap.size A L) :
    Calls Try.prog 103 #[.agg #[.int .i64 W, .int .i64 H, .slice A L.length c], .pointer (some ⟨Bi, 0, none⟩)] w fun e w' => e = .returned (.int .i64 (if allB m L then 1 else 0)) ∧ Below w.heap.size w w' := by
  have hB := World.block_lt_of_cell? _ _ hcell
  have hBi := World.block_lt_of_cell? _ _ hi
  obtain ⟨w1, hw1⟩ : ∃ w1, w1 = w.alloc (.cells #[.int .i64 W, .int .i64 H, .slice A L.length c] 50) := ⟨_, rfl⟩
  have hb1 : Below w.heap.size w w1 := by rw [hw1]; exact (Below.refl _ _).alloc (Nat.le_refl _) _
  have i1 := (hb1.cell (p := ⟨Bi, 0, none⟩) hBi).trans hi
  have x0 : w1.cell? ⟨w.heap.size, 0, none⟩ = some (.int .i64 W) := by rw [hw1]; simp [go_sem]
  have x1 : w1.cell? ⟨w.heap.size, 1, none⟩ = some (.int .i64 H) := by rw [hw1]; simp [go_sem]
  have x2 : w1.cell? ⟨w.heap.size, 2, none⟩ = some (.slice A L.length c) := by rw [hw1]; simp [go_sem]
  have C := fun w' (hb' : Below w1.heap.size w1 w') => mostIs_any W H m L A c B w' h0 hl (Nat.lt_of_lt_of_le hB (hb1.trans (hb'.mono hb1.size)).size) (((hb1.trans (hb'.mono hb1.size)).cell (p := ⟨B, 0, none⟩) hB).trans hcell) (((hL.below (hb1.trans (hb'.mono hb1.size)))).mono (hb1.trans (hb'.mono hb1.size)).size)
  obtain ⟨v, hv⟩ : ∃ v, allB m L = v := ⟨_, rfl⟩
  simp only [hv] at C ⊢
  have HC := Lib.hid C
  rw [hw1] at i1
  clear C hL hcell hi hv h0 hl x0 x1 x2
  go_enter Try.func103, Try.ntmps103
  go_wp2_with fail
  rw [← hw1]
  clear hw1
  refine (HC.out _ (by first | exact Below.refl _ _ | exact (Below.refl _ _).drew | exact below_drewN (Below.refl _ _) _)).mono ?_
  rintro e w2 ⟨rfl, hb2⟩
  have hB2 := hb1.trans (hb2.mono hb1.size)
  clear i1
  cases v
  · go_wp2_with fail
    go_ret
    exact ⟨rfl, hB2⟩
  · go_wp2_with fail
    go_ret
    exact ⟨rfl, hB2⟩
set_option maxRecDepth 100000 in
set_option maxHeartbeats 16000000 in
theorem sumC_most (W H : Nat) (hW : 1 ≤ W ∧ W ≤ 6) (hH : 1 ≤ H ∧ H ≤ 6) (Bw Bh : Nat) (Bi : Nat) (t : List Sq → Int) (w : World) (hw : w.cell? ⟨Bw, 0, none⟩ = some (.int .i64 W)) (hh : w.cell? ⟨Bh, 0, none⟩ = some (.int .i64 H))
    (CT : ∀ (V : World) (L : List Sq) (A : Option Addr) (c : Nat), Below w.heap.size w V → L ∈ allF W H → SqsAt V V.heap.size A L → Calls Try.prog 103 #[.agg #[.int .i64 W, .int .i64 H, .slice A L.length c], .pointer (some ⟨Bi, 0, none⟩)] V fun e V' => e = .returned (.int .i64 (t L)) ∧ Below V.heap.size V V') :
    Calls Try.prog 62 #[(.func (.func 105) #[] #[.pointer (some ⟨Bw, 0, none⟩), .pointer (some ⟨Bh, 0, none⟩)]), (.func (.func 103) #[] #[.pointer (some ⟨Bi, 0, none⟩)])] w fun e w' => e = .returned (.int .i64 (wtell t (allF W H))) ∧ Below w.heap.size w w' := by
  obtain ⟨W2, hW2⟩ : ∃ W2, W2 = (w.alloc (.cells #[(.func (.func 103) #[] #[.pointer (some ⟨Bi, 0, none⟩)])] 83)).alloc (.cells #[.int .i64 0] 3) := ⟨_, rfl⟩
  have hz2 : W2.heap.size = w.heap.size + 2 := by rw [hW2]; simp
  have hB2 : Below w.heap.size w W2 := by rw [hW2]; exact ((Below.refl _ _).alloc (Nat.le_refl _) _).alloc (by simp) _
  have hS2 : SM w.heap.size (.func (.func 103) #[] #[.pointer (some ⟨Bi, 0, none⟩)]) 0 w W2 := by
    refine ⟨?_, ?_, ?_, hB2⟩
    · rw [hW2, World.cell?_alloc_lt _ _ _ (by simp)]; simp [go_sem]
    · rw [hW2]; simp [go_sem]
    · rw [hW2]; exact World.frozen?_alloc_at _ _ _ _ (by simp)
  have cw := (hB2.cell (p := ⟨Bw, 0, none⟩) (World.block_lt_of_cell? _ _ hw)).trans hw
  have ch := (hB2.cell (p := ⟨Bh, 0, none⟩) (World.block_lt_of_cell? _ _ hh)).trans hh
  have HCT := Lib.hid CT
  clear CT
  refine (callsIn_wide (n := 5)).1 ?_
  refine callsIn_of_wp_marks Try.func62 rfl trivial ?_ rfl
  simp only [Try.ntmps62, List.size_toArray, List.length_cons, List.length_nil, Nat.reduceAdd, Nat.reduceSub, Array.replicate_succ, Array.replicate_zero, List.push_toArray, List.append_toArray, List.nil_append, List.cons_append]
  gi_wp2
  rw [← hW2]
  clear hW2
  refine wpIn_rangeFunc_x rfl (by decide) (gf := 105) (lb := #[.pointer (some ⟨Bw, 0, none⟩), .pointer (some ⟨Bh, 0, none⟩)]) rfl trivial (enters_of Try.func105 (by kernel_rfl) rfl)
    (fill_seq W H hW hH _ Bw Bh W2 cw ch) (fun X x A k o o' h hk ho => ⟨h.1, okC_put h.2 hk ho⟩) (Below.refl _ _) (fun _ => rfl)
    (fun X pre V => (∀ k, X k → W2.heap.size ≤ k) ∧ SM w.heap.size (.func (.func 103) #[] #[.pointer (some ⟨Bi, 0, none⟩)]) (wtell t (firsts pre)) w V) (fun _ _ _ => False)
    (ownX_below W2.heap.size (fun (pre : List CV) V => SM w.heap.size (.func (.func 103) #[] #[.pointer (some ⟨Bi, 0, none⟩)]) (wtell t (firsts pre)) w V) (fun s A C h hb => h.keep hb (by omega)))
    ⟨fun _ _ _ _ _ h _ _ _ => h.elim, fun _ _ _ _ _ _ h _ _ _ => h.elim, fun _ _ _ _ h _ => h.elim⟩ ⟨fun k h => h.elim, hS2⟩
    (fun x a' V => ∃ Bx, V.cell? ⟨Bx, 0, none⟩ = some (.int .i64 W) ∧ V.cell? ⟨Bx, 1, none⟩ = some (.int .i64 H) ∧ V.cell? ⟨Bx, 2, none⟩ = some (.slice x.2.1 x.1.length x.2.2) ∧ a' = { tmps := #[.func (.func 105) #[] #[.pointer (some ⟨Bw, 0, none⟩), .pointer (some ⟨Bh, 0, none⟩)], .func (.func 103) #[] #[.pointer (some ⟨Bi, 0, none⟩)], undef, .pointer (some ⟨w.heap.size, 0, none⟩), .int .i64 0, .pointer (some ⟨w.heap.size + 1, 0, none⟩), .pointer (some ⟨Bx, 0, none⟩), .func (.func 105) #[] #[.pointer (some ⟨Bw, 0, none⟩), .pointer (some ⟨Bh, 0, none⟩)], .agg #[.int .i64 W, .int .i64 H, .slice x.2.1 x.1.length x.2.2], undef, undef, undef, undef, undef, undef], defers := [] })
    (fun x a' A k o o' h hk ho => by
      obtain ⟨Bx, h0, h1, h2, h3⟩ := h
      have q : ∀ {p : Addr} {v : Value}, A.cell? p = some v → (A.putObj k o').cell? p = some v := fun h => cell_kept h (grownBy_putObj' A k o') (fun r e => by cases e; exact ⟨o, hk, ho⟩)
      exact ⟨Bx, q h0, q h1, q h2, h3⟩) ?assign ?body ?done ?stop
  case assign =>
    rintro l X pre ⟨L, A, c⟩ V K ⟨hX, hM⟩ hok hX2 hsz hK
    dsimp only [encC]
    gi_wp2
    have hb := (Below.refl V.heap.size V).alloc (Nat.le_refl _) (.cells #[.int .i64 W, .int .i64 H, .slice A L.length c] 50)
    exact hK _ _ ((KeepsOthers.alloc _ _).from _) ⟨by simp, fun k hk => Below.heap_alloc V _ k (hX2 k hk).2⟩ ⟨hX, hM.keep hb (by omega)⟩ ⟨hok.1, hok.2.1.alloc _, hok.2.2⟩ ⟨V.heap.size, by simp [go_sem], by simp [go_sem], by simp [go_sem], rfl⟩
  case body =>
    rintro l X pre ⟨L, A, c⟩ a' V ⟨hX, hM⟩ hok ⟨Bx, x0, x1, x2, rfl⟩ hX2 hsz
    dsimp only at x0 x1 x2 ⊢
    obtain ⟨c0, c1, f1, hb⟩ := id hM
    have hsq := sqs_of_own hok.2.1
    have lt1 : w.heap.size + 1 < V.heap.size := by omega
    have CT : ∀ V', Below V.heap.size V V' → Calls Try.prog 103 #[.agg #[.int .i64 W, .int .i64 H, .slice A L.length c], .pointer (some ⟨Bi, 0, none⟩)] V' fun e V2 => e = .returned (.int .i64 (t L)) ∧ Below V'.heap.size V' V2 := fun V' hb' =>
      HCT.out V' L A c (hb.trans (hb'.mono hb.size)) hok.1 ((hsq.below hb').mono hb'.size)
    have HM := Lib.hid hM
    have HX := Lib.hid hX
    have HX2 := Lib.hid hX2
    have CT' := Lib.hid CT
    have hmx : Try.prog.follows .mixedOrders = true := by kernel_rfl
    clear hM hX hX2 CT hok hsq cw ch hw hh hS2
    gi_wp2
    gi_region_with_o ((try refine ⟨trivial, ?_⟩); gi_at_call 103; refine (CallsIn.inRound l (callsIn_wide.2 (CT'.out _ (by first | exact Below.refl _ _ | exact (Below.refl _ _).drew | exact below_drewN (Below.refl _ _) _)))).mono ?_; rintro e V2 ⟨rfl, hb2⟩; have hV2 : Below V.heap.size V V2 := (by first | exact hb2 | exact ((Below.refl _ _).drew).trans (hb2.mono (by first | exact Nat.le_refl _ | simp)) | exact (below_drewN (Below.refl _ _) _).trans (hb2.mono (by simp))); have S2 := HM.out.keep hV2 lt1; have c1' := S2.c1; have f1' := S2.f1)
    all_goals gi_wp2
    all_goals (try go_bits)
    all_goals exact ⟨(keepsFrom_below hV2).trans ((KeepsOthers.setCell _ _ _).from _), ⟨by have := hV2.size; simpa [World.setCell] using this, fun k hk => (Below.heap_setCell V2 _ _ k (by have := HX.out k hk; show k ≠ w.heap.size + 1; omega)).trans (hV2.block k (HX2.out k hk).2)⟩, HX.out, by
      have e : firsts (pre ++ [(L, A, c)]) = firsts pre ++ [L] := by simp [firsts]
      show SM _ _ (wtell t (firsts (pre ++ [(L, A, c)]))) _ _
      rw [e, wtell_snoc]
      exact S2.put _⟩
  case done =>
    rintro D ys X V hD hys ⟨hX, hM⟩ hK
    rw [show firsts ys = allF W H from hys] at hM
    obtain ⟨c0, c1, f1, hb⟩ := id hM
    have HM := Lib.hid hM
    clear hM hX hw hh cw ch hS2
    gi_wp2
    refine ⟨by simp, .inl ⟨_, _, rfl, run_takeDeferred hK, ?_⟩⟩
    exact ⟨_, results_tmp rfl _ _ _, rfl, HM.out.b.trans (belowK_b (w := w) (Nat.le_refl _) V D _ _ (by omega) hK rfl rfl)⟩
  case stop =>
    intro D pre V _ _ h
    exact h.elim
end Go.Proofs.Ytchabjmdjpfkfaa
