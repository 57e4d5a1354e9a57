/- The program's sum of the numbers of squares of all cuts. -/
import Derived.Test.YtchabjmdjpfkfaaVal
import Derived.Shelf.RegionOpen
set_option linter.all false
namespace Go.Proofs.Ytchabjmdjpfkfaa
open Go.RowKit Go.Shelf
attribute [local go_sem] Oper.semAt_some

theorem keepsFrom_below {B : Nat} {A C : World} (h : Below A.heap.size A C) : KeepsFrom B A C := ⟨h.size, fun k o _ hk _ => (h.block k (Array.getElem?_eq_some_iff.1 hk).1).trans hk⟩
theorem lenC_any (W H : Int) (A : Option Addr) (n c : Nat) (w : World) : Calls Try.prog 64 #[.agg #[.int .i64 W, .int .i64 H, .slice A n c]] w fun e w' => e = .returned (.int .i64 n) ∧ Below w.heap.size w w' := by
  go_enter Try.func64, Try.ntmps64
  go_wp2
  go_ret
  exact ⟨rfl, (Below.refl _ _).alloc (Nat.le_refl _) _⟩
set_option maxRecDepth 100000 in
set_option maxHeartbeats 16000000 in
theorem sumC_len (W H : Nat) (hW : 1 ≤ W ∧ W ≤ 6) (hH : 1 ≤ H ∧ H ≤ 6) (Bw Bh : Nat) (t : List Sq → Int) (w : World) (hw : w.cell? ⟨Bw, 0, none⟩ = some (.int .i64 W)) (hh : w.cell? ⟨Bh, 0, none⟩ = some (.int .i64 H))
    (CT : ∀ (V : World) (L : List Sq) (A : Option Addr) (c : Nat), Below w.heap.size w V → L ∈ allF W H → SqsAt V V.heap.size A L → Calls Try.prog 64 #[.agg #[.int .i64 W, .int .i64 H, .slice A L.length c]] V fun e V' => e = .returned (.int .i64 (t L)) ∧ Below V.heap.size V V') :
    Calls Try.prog 62 #[(.func (.func 105) #[] #[.pointer (some ⟨Bw, 0, none⟩), .pointer (some ⟨Bh, 0, none⟩)]), (.func (.func 64) #[] #[])] w fun e w' => e = .returned (.int .i64 (wtell t (allF W H))) ∧ Below w.heap.size w w' := by
  obtain ⟨W2, hW2⟩ : ∃ W2, W2 = (w.alloc (.cells #[(.func (.func 64) #[] #[])] 83)).alloc (.cells #[.int .i64 0] 3) := ⟨_, rfl⟩
  have hz2 : W2.heap.size = w.heap.size + 2 := by rw [hW2]; simp
  have hB2 : Below w.heap.size w W2 := by rw [hW2]; exact ((Below.refl _ _).alloc (Nat.le_refl _) _).alloc (by simp) _
  have hS2 : SM w.heap.size (.func (.func 64) #[] #[]) 0 w W2 := by
    refine ⟨?_, ?_, ?_, hB2⟩
    · rw [hW2, World.cell?_alloc_lt _ _ _ (by simp)]; simp [go_sem]
    · rw [hW2]; simp [go_sem]
    · rw [hW2]; exact World.frozen?_alloc_at _ _ _ _ (by simp)
  have cw := (hB2.cell (p := ⟨Bw, 0, none⟩) (World.block_lt_of_cell? _ _ hw)).trans hw
  have ch := (hB2.cell (p := ⟨Bh, 0, none⟩) (World.block_lt_of_cell? _ _ hh)).trans hh
  have HCT := Lib.hid CT
  clear CT
  refine (callsIn_wide (n := 5)).1 ?_
  refine callsIn_of_wp_marks Try.func62 rfl trivial ?_ rfl
  simp only [Try.ntmps62, List.size_toArray, List.length_cons, List.length_nil, Nat.reduceAdd, Nat.reduceSub, Array.replicate_succ, Array.replicate_zero, List.push_toArray, List.append_toArray, List.nil_append, List.cons_append]
  gi_wp2
  rw [← hW2]
  clear hW2
  refine wpIn_rangeFunc_x rfl (by decide) (gf := 105) (lb := #[.pointer (some ⟨Bw, 0, none⟩), .pointer (some ⟨Bh, 0, none⟩)]) rfl trivial (enters_of Try.func105 (by kernel_rfl) rfl)
    (fill_seq W H hW hH _ Bw Bh W2 cw ch) (fun X x A k o o' h hk ho => ⟨h.1, okC_put h.2 hk ho⟩) (Below.refl _ _) (fun _ => rfl)
    (fun X pre V => (∀ k, X k → W2.heap.size ≤ k) ∧ SM w.heap.size (.func (.func 64) #[] #[]) (wtell t (firsts pre)) w V) (fun _ _ _ => False)
    (ownX_below W2.heap.size (fun (pre : List CV) V => SM w.heap.size (.func (.func 64) #[] #[]) (wtell t (firsts pre)) w V) (fun s A C h hb => h.keep hb (by omega)))
    ⟨fun _ _ _ _ _ h _ _ _ => h.elim, fun _ _ _ _ _ _ h _ _ _ => h.elim, fun _ _ _ _ h _ => h.elim⟩ ⟨fun k h => h.elim, hS2⟩
    (fun x a' V => ∃ Bx, V.cell? ⟨Bx, 0, none⟩ = some (.int .i64 W) ∧ V.cell? ⟨Bx, 1, none⟩ = some (.int .i64 H) ∧ V.cell? ⟨Bx, 2, none⟩ = some (.slice x.2.1 x.1.length x.2.2) ∧ a' = { tmps := #[.func (.func 105) #[] #[.pointer (some ⟨Bw, 0, none⟩), .pointer (some ⟨Bh, 0, none⟩)], .func (.func 64) #[] #[], undef, .pointer (some ⟨w.heap.size, 0, none⟩), .int .i64 0, .pointer (some ⟨w.heap.size + 1, 0, none⟩), .pointer (some ⟨Bx, 0, none⟩), .func (.func 105) #[] #[.pointer (some ⟨Bw, 0, none⟩), .pointer (some ⟨Bh, 0, none⟩)], .agg #[.int .i64 W, .int .i64 H, .slice x.2.1 x.1.length x.2.2], undef, undef, undef, undef, undef, undef], defers := [] })
    (fun x a' A k o o' h hk ho => by
      obtain ⟨Bx, h0, h1, h2, h3⟩ := h
      have q : ∀ {p : Addr} {v : Value}, A.cell? p = some v → (A.putObj k o').cell? p = some v := fun h => cell_kept h (grownBy_putObj' A k o') (fun r e => by cases e; exact ⟨o, hk, ho⟩)
      exact ⟨Bx, q h0, q h1, q h2, h3⟩) ?assign ?body ?done ?stop
  case assign =>
    rintro l X pre ⟨L, A, c⟩ V K ⟨hX, hM⟩ hok hX2 hsz hK
    dsimp only [encC]
    gi_wp2
    have hb := (Below.refl V.heap.size V).alloc (Nat.le_refl _) (.cells #[.int .i64 W, .int .i64 H, .slice A L.length c] 50)
    exact hK _ _ ((KeepsOthers.alloc _ _).from _) ⟨by simp, fun k hk => Below.heap_alloc V _ k (hX2 k hk).2⟩ ⟨hX, hM.keep hb (by omega)⟩ ⟨hok.1, hok.2.1.alloc _, hok.2.2⟩ ⟨V.heap.size, by simp [go_sem], by simp [go_sem], by simp [go_sem], rfl⟩
  case body =>
    rintro l X pre ⟨L, A, c⟩ a' V ⟨hX, hM⟩ hok ⟨Bx, x0, x1, x2, rfl⟩ hX2 hsz
    dsimp only at x0 x1 x2 ⊢
    obtain ⟨c0, c1, f1, hb⟩ := id hM
    have hsq := sqs_of_own hok.2.1
    have lt1 : w.heap.size + 1 < V.heap.size := by omega
    have CT : ∀ V', Below V.heap.size V V' → Calls Try.prog 64 #[.agg #[.int .i64 W, .int .i64 H, .slice A L.length c]] V' fun e V2 => e = .returned (.int .i64 (t L)) ∧ Below V'.heap.size V' V2 := fun V' hb' =>
      HCT.out V' L A c (hb.trans (hb'.mono hb.size)) hok.1 ((hsq.below hb').mono hb'.size)
    have HM := Lib.hid hM
    have HX := Lib.hid hX
    have HX2 := Lib.hid hX2
    have CT' := Lib.hid CT
    have hmx : Try.prog.follows .mixedOrders = true := by kernel_rfl
    clear hM hX hX2 CT hok hsq cw ch hw hh hS2
    gi_wp2
    gi_region_with_o ((try refine ⟨trivial, ?_⟩); gi_at_call 64; refine (CallsIn.inRound l (callsIn_wide.2 (CT'.out _ (by first | exact Below.refl _ _ | exact (Below.refl _ _).drew | exact below_drewN (Below.refl _ _) _)))).mono ?_; rintro e V2 ⟨rfl, hb2⟩; have hV2 : Below V.heap.size V V2 := (by first | exact hb2 | exact ((Below.refl _ _).drew).trans (hb2.mono (by first | exact Nat.le_refl _ | simp)) | exact (below_drewN (Below.refl _ _) _).trans (hb2.mono (by simp))); have S2 := HM.out.keep hV2 lt1; have c1' := S2.c1; have f1' := S2.f1)
    all_goals gi_wp2
    all_goals (try go_bits)
    all_goals exact ⟨(keepsFrom_below hV2).trans ((KeepsOthers.setCell _ _ _).from _), ⟨by have := hV2.size; simpa [World.setCell] using this, fun k hk => (Below.heap_setCell V2 _ _ k (by have := HX.out k hk; show k ≠ w.heap.size + 1; omega)).trans (hV2.block k (HX2.out k hk).2)⟩, HX.out, by
      have e : firsts (pre ++ [(L, A, c)]) = firsts pre ++ [L] := by simp [firsts]
      show SM _ _ (wtell t (firsts (pre ++ [(L, A, c)]))) _ _
      rw [e, wtell_snoc]
      exact S2.put _⟩
  case done =>
    rintro D ys X V hD hys ⟨hX, hM⟩ hK
    rw [show firsts ys = allF W H from hys] at hM
    obtain ⟨c0, c1, f1, hb⟩ := id hM
    have HM := Lib.hid hM
    clear hM hX hw hh cw ch hS2
    gi_wp2
    refine ⟨by simp, .inl ⟨_, _, rfl, run_takeDeferred hK, ?_⟩⟩
    exact ⟨_, results_tmp rfl _ _ _, rfl, HM.out.b.trans (belowK_b (w := w) (Nat.le_refl _) V D _ _ (by omega) hK rfl rfl)⟩
  case stop =>
    intro D pre V _ _ h
    exact h.elim
end Go.Proofs.Ytchabjmdjpfkfaa
