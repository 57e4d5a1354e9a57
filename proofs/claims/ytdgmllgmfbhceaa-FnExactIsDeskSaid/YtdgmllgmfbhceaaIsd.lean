/- IsDesk of both sides, and an argument that is a desk. -/
import Derived.Test.YtdgmllgmfbhceaaDkc
import Derived.Test.YtdgmllgmfbhceaaGood
set_option linter.all false
namespace Go.Proofs.Ytdgmllgmfbhceaa
open Go.RowKit

section
open Go.ChangeShapes Go.WideShapes Go.ChangeAt Go.RowKit Go.Deep Go.Joins
theorem array6 {cs : Array Value} (h : cs.size = 6) : ∃ a b c d e f, cs = #[a, b, c, d, e, f] := by
  obtain ⟨l⟩ := cs
  match l, h with
  | [a, b, c, d, e, f], _ => exact ⟨a, b, c, d, e, f, rfl⟩
theorem open_trod3 {H : Type} {enc : TypeId × Value → H} {P : Program} {w : World} {base : Nat} {spare : Nat → Bool} {held : Bool} {t : TypeId} {f0 f1 f2 : Field} (hs : P.underlying t = some (.struct #[f0, f1, f2])) (hone : oneCellFields P #[f0, f1, f2] = true) {fuel : Nat} {v0 v1 v2 : Value} {x : DataW H × List MemPlace} (h : DataW.trod enc P w base spare held fuel t [v0, v1, v2] = some x) :
    ∃ (y0 y1 y2 : DataW H × List MemPlace) (n : Nat), DataW.trod enc P w base spare held n f0.type [v0] = some y0 ∧ DataW.trod enc P w base spare held n f1.type [v1] = some y1 ∧ DataW.trod enc P w base spare held n f2.type [v2] = some y2 := by
  obtain ⟨y0, y1, y2, n, _, _, h0, h1, h2⟩ := trod_struct3 hs h
  obtain ⟨o0, k0⟩ := hone_of hone 0 f0 rfl
  obtain ⟨o1, k1⟩ := hone_of hone 1 f1 rfl
  obtain ⟨o2, k2⟩ := hone_of hone 2 f2 rfl
  exact ⟨y0, y1, y2, n, by simpa [o0, k0] using h0, by simpa [o1, k1] using h1, by simpa [o2, k2] using h2⟩
variable {H : Type} {enc : TypeId × Value → H} {w : World} {base : Nat} {spare : Nat → Bool} {held : Bool}
theorem cellsLD : Try.prog.cellsOf 26 = 6 := by kernel_rfl
theorem open_cut3 {fuel : Nat} {v0 v1 v2 : Value} {x : DataW H × List MemPlace} (h : DataW.trod enc Try.prog w base spare held fuel 24 [v0, v1, v2] = some x) :
    ∃ (W H' : Int) (A : Option Addr) (n c : Nat) (L : List Sq), v0 = .int .i64 W ∧ v1 = .int .i64 H' ∧ v2 = .slice A n c ∧ wfI W ∧ wfI H' ∧ n ≤ c ∧ n ≤ 9223372036854775807 ∧ L.length = n ∧ SqsAt w w.heap.size A L ∧ ∀ s ∈ L, wfS s := by
  obtain ⟨y0, y1, y2, n, t0, t1, t2⟩ := open_trod3 Try.underlying24 (by kernel_rfl) h
  obtain ⟨W, e0, _, f0⟩ := DataW.trod_int Try.underlying3 t0
  obtain ⟨H', e1, _, f1⟩ := DataW.trod_int Try.underlying3 t1
  obtain ⟨A, n, c, L, rfl, r⟩ := open_sqs t2
  cases e0; cases e1
  exact ⟨W, H', A, n, c, L, rfl, rfl, rfl, wf_of f0, wf_of f1, r⟩
set_option maxRecDepth 100000 in
theorem open_desk {r : Reach} {b0 : Nat} {v : Value} {d : DataW H} {p : List MemPlace} (hv : Value.okWide Try.prog w r b0 26 v) (h : DataW.Trod enc Try.prog w base spare held 26 v d p) :
    ∃ (X Y : Int) (A : Option Addr) (n c : Nat) (L : List Sq) (X' Y' : Int) (A' : Option Addr) (n' c' : Nat) (M : List Sq), v = .agg #[.int .i64 X, .int .i64 Y, .slice A n c, .int .i64 X', .int .i64 Y', .slice A' n' c'] ∧
      (n ≤ c ∧ n ≤ 9223372036854775807 ∧ L.length = n ∧ SqsAt w w.heap.size A L ∧ ∀ s ∈ L, wfS s) ∧ (n' ≤ c' ∧ n' ≤ 9223372036854775807 ∧ M.length = n' ∧ SqsAt w w.heap.size A' M ∧ ∀ s ∈ M, wfS s) := by
  obtain ⟨cs, rfl, hsz⟩ := okWide_struct Try.underlying26 hv
  obtain ⟨a0, a1, a2, a3, a4, a5, rfl⟩ := array6 (hsz.trans cellsLD)
  obtain ⟨fuel, hf⟩ := h
  obtain ⟨xs, n, _, _, _, hxl, hat⟩ := DataW.trod_struct Try.underlying26 hf
  have h0 : DataW.trod enc Try.prog w base spare held n 24 (((Value.agg #[a0, a1, a2, a3, a4, a5]).cells.toList.drop 0).take (Try.prog.cellsOf 24)) = xs[0]? := hat 0 _ rfl
  have h1 : DataW.trod enc Try.prog w base spare held n 24 (((Value.agg #[a0, a1, a2, a3, a4, a5]).cells.toList.drop 3).take (Try.prog.cellsOf 24)) = xs[1]? := hat 1 _ rfl
  rw [show Try.prog.cellsOf 24 = 3 from cells24] at h0 h1
  obtain ⟨x0, e0⟩ : ∃ x0, xs[0]? = some x0 := ⟨_, List.getElem?_eq_getElem (by rw [hxl]; decide)⟩
  obtain ⟨x1, e1⟩ : ∃ x1, xs[1]? = some x1 := ⟨_, List.getElem?_eq_getElem (by rw [hxl]; decide)⟩
  rw [e0] at h0
  rw [e1] at h1
  obtain ⟨X, Y, A, k, c, L, rfl, rfl, rfl, _, _, r0⟩ := open_cut3 (v0 := a0) (v1 := a1) (v2 := a2) (by simpa [Value.cells] using h0)
  obtain ⟨X', Y', A', k', c', M, rfl, rfl, rfl, _, _, r1⟩ := open_cut3 (v0 := a3) (v1 := a4) (v2 := a5) (by simpa [Value.cells] using h1)
  exact ⟨X, Y, A, k, c, L, X', Y', A', k', c', M, rfl, r0, r1⟩
end
set_option maxRecDepth 100000 in
set_option maxHeartbeats 2000000 in
theorem implIsd_any (X Y : Int) (A : Option Addr) (n c : Nat) (X' Y' : Int) (A' : Option Addr) (n' c' : Nat) (L M : List Sq) (w : World) (hl : L.length = n) (hc : n ≤ c) (hL : SqsAt w w.heap.size A L) (hm : M.length = n') (hc' : n' ≤ c') (hM : SqsAt w w.heap.size A' M) (hwf : ∀ s ∈ L, wfS s) (hwf' : ∀ s ∈ M, wfS s) :
    Calls Try.prog 9 #[.agg #[.int .i64 X, .int .i64 Y, .slice A n c, .int .i64 X', .int .i64 Y', .slice A' n' c']] w (RetB w (Good X Y L ∧ Good X' Y' M)) := by
  have D0 := Dx.start w X Y A n c X' Y' A' n' c' 33
  obtain ⟨W1, hW1⟩ : ∃ W1, W1 = w.alloc (.cells #[.int .i64 X, .int .i64 Y, .slice A n c, .int .i64 X', .int .i64 Y', .slice A' n' c'] 33) := ⟨_, rfl⟩
  have hb1 : Below w.heap.size w W1 := by rw [hW1]; exact (Below.refl _ _).alloc (Nat.le_refl _) _
  rw [← hW1] at D0
  have HW1 := Lib.hid hW1
  obtain ⟨l0, a0, a1, a2, a3, a4, a5⟩ := id D0
  clear hW1
  have C1 := isCut_good X Y A n c L W1 hl hc ((hL.below hb1).mono hb1.size) hwf
  by_cases hG : Good X Y L
  · have C1 := Lib.hid (callB_yes C1 hG)
    go_enter Try.func9, Try.ntmps9
    go_upto_region 1 with fail
    rw [← HW1.out]
    have hG2 := Lib.hid hG
    clear hG
    go_wp2_with fail
    (with_reducible refine C1.out.mono ?_)
    rintro e w3 ⟨rfl, hb3⟩
    have D3 := D0.next hb3
    have hb13 := hb1.trans (hb3.mono hb1.size)
    have C2 := Lib.hid (isCut_good X' Y' A' n' c' M w3 hm hc' ((hM.below hb13).mono hb13.size) hwf')
    clear l0 a0 a1 a2 a3 a4 a5 C1
    obtain ⟨l0, a0, a1, a2, a3, a4, a5⟩ := id D3
    go_wp2_with fail
    (with_reducible refine C2.out.mono ?_)
    rintro e w4 ⟨rfl, hb4⟩
    have hE : dc (Good X Y L ∧ Good X' Y' M) = dc (Good X' Y' M) := by
      by_cases h : Good X' Y' M
      · rw [dc_true h, dc_true ⟨hG2.out, h⟩]
      · rw [dc_false h, dc_false (fun h2 => h h2.2)]
    have HE := Lib.hid hE
    clear hE
    obtain ⟨b, hb⟩ : ∃ b, dc (Good X' Y' M) = b := ⟨_, rfl⟩
    rw [hb] at HE ⊢
    clear hb
    cases b
    all_goals
      go_wp2_with fail
      go_ret
      exact ⟨by rw [HE.out]; rfl, hb13.trans (hb4.mono hb13.size)⟩
  · have C1 := Lib.hid (callB_no C1 hG)
    unfold RetB
    rw [dc_false (fun h => hG h.1)]
    clear hG
    go_enter Try.func9, Try.ntmps9
    go_upto_region 1 with fail
    rw [← HW1.out]
    go_wp2_with fail
    (with_reducible refine C1.out.mono ?_)
    rintro e w3 ⟨rfl, hb3⟩
    go_wp2_with fail
    go_ret
    exact ⟨rfl, hb1.trans (hb3.mono hb1.size)⟩
set_option maxRecDepth 100000 in
set_option maxHeartbeats 2000000 in
theorem coGood_any (X Y : Int) (A : Option Addr) (n c : Nat) (X' Y' : Int) (A' : Option Addr) (n' c' : Nat) (L M : List Sq) (w : World) (hl : L.length = n) (hc : n ≤ c) (hL : SqsAt w w.heap.size A L) (hm : M.length = n') (hc' : n' ≤ c') (hM : SqsAt w w.heap.size A' M) :
    Calls Try.prog 23 #[.agg #[.int .i64 X, .int .i64 Y, .slice A n c, .int .i64 X', .int .i64 Y', .slice A' n' c']] w (RetB w (Good X Y L ∧ Good X' Y' M)) := by
  have D0 := Dx.start w X Y A n c X' Y' A' n' c' 33
  obtain ⟨W1, hW1⟩ : ∃ W1, W1 = w.alloc (.cells #[.int .i64 X, .int .i64 Y, .slice A n c, .int .i64 X', .int .i64 Y', .slice A' n' c'] 33) := ⟨_, rfl⟩
  have hb1 : Below w.heap.size w W1 := by rw [hW1]; exact (Below.refl _ _).alloc (Nat.le_refl _) _
  rw [← hW1] at D0
  have HW1 := Lib.hid hW1
  obtain ⟨l0, a0, a1, a2, a3, a4, a5⟩ := id D0
  clear hW1
  have C1 := cuGood_any X Y A n c L W1 hl hc ((hL.below hb1).mono hb1.size)
  by_cases hG : Good X Y L
  · have C1 := Lib.hid (callB_yes C1 hG)
    go_enter Try.func23, Try.ntmps23
    go_upto_region 1 with fail
    rw [← HW1.out]
    have hG2 := Lib.hid hG
    clear hG
    go_wp2_with fail
    (with_reducible refine C1.out.mono ?_)
    rintro e w3 ⟨rfl, hb3⟩
    have D3 := D0.next hb3
    have hb13 := hb1.trans (hb3.mono hb1.size)
    have C2 := Lib.hid (cuGood_any X' Y' A' n' c' M w3 hm hc' ((hM.below hb13).mono hb13.size))
    clear l0 a0 a1 a2 a3 a4 a5 C1
    obtain ⟨l0, a0, a1, a2, a3, a4, a5⟩ := id D3
    go_wp2_with fail
    (with_reducible refine C2.out.mono ?_)
    rintro e w4 ⟨rfl, hb4⟩
    have hE : dc (Good X Y L ∧ Good X' Y' M) = dc (Good X' Y' M) := by
      by_cases h : Good X' Y' M
      · rw [dc_true h, dc_true ⟨hG2.out, h⟩]
      · rw [dc_false h, dc_false (fun h2 => h h2.2)]
    have HE := Lib.hid hE
    clear hE
    obtain ⟨b, hb⟩ : ∃ b, dc (Good X' Y' M) = b := ⟨_, rfl⟩
    rw [hb] at HE ⊢
    clear hb
    cases b
    all_goals
      go_wp2_with fail
      go_ret
      exact ⟨by rw [HE.out]; rfl, hb13.trans (hb4.mono hb13.size)⟩
  · have C1 := Lib.hid (callB_no C1 hG)
    unfold RetB
    rw [dc_false (fun h => hG h.1)]
    clear hG
    go_enter Try.func23, Try.ntmps23
    go_upto_region 1 with fail
    rw [← HW1.out]
    go_wp2_with fail
    (with_reducible refine C1.out.mono ?_)
    rintro e w3 ⟨rfl, hb3⟩
    go_wp2_with fail
    go_ret
    exact ⟨rfl, hb1.trans (hb3.mono hb1.size)⟩
set_option maxRecDepth 100000 in
theorem specIsd_any (X Y : Int) (A : Option Addr) (n c : Nat) (X' Y' : Int) (A' : Option Addr) (n' c' : Nat) (L M : List Sq) (w : World) (hl : L.length = n) (hc : n ≤ c) (hL : SqsAt w w.heap.size A L) (hm : M.length = n') (hc' : n' ≤ c') (hM : SqsAt w w.heap.size A' M) :
    Calls Try.prog 7 #[.agg #[.int .i64 X, .int .i64 Y, .slice A n c, .int .i64 X', .int .i64 Y', .slice A' n' c']] w (RetB w (Good X Y L ∧ Good X' Y' M)) := by
  have D0 := Dx.start w X Y A n c X' Y' A' n' c' 33
  obtain ⟨W1, hW1⟩ : ∃ W1, W1 = w.alloc (.cells #[.int .i64 X, .int .i64 Y, .slice A n c, .int .i64 X', .int .i64 Y', .slice A' n' c'] 33) := ⟨_, rfl⟩
  have hb1 : Below w.heap.size w W1 := by rw [hW1]; exact (Below.refl _ _).alloc (Nat.le_refl _) _
  rw [← hW1] at D0
  have HW1 := Lib.hid hW1
  obtain ⟨l0, a0, a1, a2, a3, a4, a5⟩ := id D0
  clear hW1
  have C1 := Lib.hid (coGood_any X Y A n c X' Y' A' n' c' L M W1 hl hc ((hL.below hb1).mono hb1.size) hm hc' ((hM.below hb1).mono hb1.size))
  go_enter Try.func7, Try.ntmps7
  go_upto_region 1 with fail
  rw [← HW1.out]
  go_wp2_with fail
  (with_reducible refine C1.out.mono ?_)
  rintro e w3 ⟨rfl, hb3⟩
  go_wp2_with fail
  go_ret
  exact ⟨rfl, hb1.trans (hb3.mono hb1.size)⟩
end Go.Proofs.Ytdgmllgmfbhceaa
