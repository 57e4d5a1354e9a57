/- The program's count of the squares with a side. -/
import Derived.Test.YtpbghalljfcaoaaPzV
set_option linter.all false
namespace Go.Proofs.Ytpbghalljfcaoaa
open Go.RowKit Go.Shelf
attribute [local go_sem] Oper.semAt_some

set_option maxRecDepth 100000 in
set_option maxHeartbeats 16000000 in
theorem sumQ_any (Bs Bi Bc len cap : Nat) (A : Option Addr) (L : List Sq) (a : Int) (w : World) (hlen : L.length = len) (hreach : len ≤ 1000) (hBs : w.cell? ⟨Bs, 0, none⟩ = some (.slice A len cap)) (hL : SqsAt w w.heap.size A L)
    (hi : w.cell? ⟨Bi, 0, none⟩ = some (.func (.func 69) #[] #[.pointer (some ⟨Bc, 0, none⟩)])) (hc : w.cell? ⟨Bc, 1, none⟩ = some (.int .i64 a)) :
    Calls Try.prog 90 #[(.func (.func 92) #[] #[.pointer (some ⟨Bs, 0, none⟩)]), (.func (.func 91) #[] #[.pointer (some ⟨Bi, 0, none⟩)])] w fun e w' => e = .returned (.int .i64 (sideN L a)) ∧ Below w.heap.size w w' := by
  obtain ⟨W2, hW2⟩ : ∃ W2, W2 = (w.alloc (.cells #[(.func (.func 91) #[] #[.pointer (some ⟨Bi, 0, none⟩)])] 117)).alloc (.cells #[.int .i64 0] 3) := ⟨_, rfl⟩
  have hz2 : W2.heap.size = w.heap.size + 2 := by rw [hW2]; simp
  have hB2 : Below w.heap.size w W2 := by rw [hW2]; exact ((Below.refl _ _).alloc (Nat.le_refl _) _).alloc (by simp) _
  have hS2 : SQ w.heap.size (.func (.func 91) #[] #[.pointer (some ⟨Bi, 0, none⟩)]) (sideN [] a) w W2 := by
    refine ⟨?_, ?_, ?_, hB2⟩
    · rw [hW2, World.cell?_alloc_lt _ _ _ (by simp)]; simp [go_sem]
    · rw [hW2]; simp [go_sem, sideN]
    · rw [hW2]; exact World.frozen?_alloc_at _ _ _ _ (by simp)
  have hc2 := (hB2.cell (p := ⟨Bs, 0, none⟩) (World.block_lt_of_cell? _ _ hBs)).trans hBs
  have hBi := World.block_lt_of_cell? _ _ hi
  have hBc := World.block_lt_of_cell? _ _ hc
  dsimp only at hBi hBc
  have CT : ∀ (V : World) (s : Sq), Below w.heap.size w V → Calls Try.prog 91 #[.agg #[.int .i64 s.x, .int .i64 s.y, .int .i64 s.d], .pointer (some ⟨Bi, 0, none⟩)] V fun e V' => e = .returned (.int .i64 (if s.d == a then 1 else 0)) ∧ Below V.heap.size V V' := fun V s hb =>
    tellQ_any s a Bi Bc V ((hb.cell (p := ⟨Bi, 0, none⟩) hBi).trans hi) ((hb.cell (p := ⟨Bc, 1, none⟩) hBc).trans hc)
  have HCT := Lib.hid CT
  clear CT hi hc
  refine (callsIn_wide (n := 5)).1 ?_
  refine callsIn_of_wp_marks Try.func90 rfl trivial ?_ rfl
  simp only [Try.ntmps90, List.size_toArray, List.length_cons, List.length_nil, Nat.reduceAdd, Nat.reduceSub, Array.replicate_succ, Array.replicate_zero, List.push_toArray, List.append_toArray, List.nil_append, List.cons_append]
  gi_wp2
  rw [← hW2]
  clear hW2
  refine wpIn_rangeFunc_ownH rfl (by decide) (gf := 92) (lb := #[.pointer (some ⟨Bs, 0, none⟩)]) rfl trivial (enters_of Try.func92 (by kernel_rfl) rfl)
    (valuesQ_stops _ (by decide) Bs len cap A L hlen hreach W2 w hB2 hc2 hL) Below.trans (belowK_b hB2.size) (Below.refl _ _) (fun _ => rfl)
    (fun pre W => SQ w.heap.size (.func (.func 91) #[] #[.pointer (some ⟨Bi, 0, none⟩)]) (sideN pre a) w W) (fun _ _ _ => False)
    (fun s W W' row hs hg hr => by
      refine hs.keep (L := w.heap.size + 2) ⟨hg.os, hg.tape, hg.output, hg.size, fun k hk => hg.block k (by have := hs.lt; omega) (fun e => by have := (hr k e.symm).1; omega)⟩ (Nat.le_refl _))
    (fun _ _ _ _ _ hs _ _ => hs) hS2
    (fun x a' V => ∃ Bx, V.cell? ⟨Bx, 0, none⟩ = some (.int .i64 x.x) ∧ V.cell? ⟨Bx, 1, none⟩ = some (.int .i64 x.y) ∧ V.cell? ⟨Bx, 2, none⟩ = some (.int .i64 x.d) ∧ a' = { tmps := #[(.func (.func 92) #[] #[.pointer (some ⟨Bs, 0, none⟩)]), (.func (.func 91) #[] #[.pointer (some ⟨Bi, 0, none⟩)]), undef, .pointer (some ⟨w.heap.size, 0, none⟩), .int .i64 0, .pointer (some ⟨w.heap.size + 1, 0, none⟩), .pointer (some ⟨Bx, 0, none⟩), (.func (.func 92) #[] #[.pointer (some ⟨Bs, 0, none⟩)]), .agg #[.int .i64 x.x, .int .i64 x.y, .int .i64 x.d], undef, undef, undef, undef, undef, undef], defers := [] })
    (fun x a' u W W' row hs hg hr => by
      obtain ⟨Bx, h0, h1, h2, h3⟩ := hs
      have q : ∀ {p : Addr} {v : Value}, W.cell? p = some v → W'.cell? p = some v := fun h => cell_kept h hg (fun r e => (hr r e).2)
      exact ⟨Bx, q h0, q h1, q h2, h3⟩) ?assign ?body ?done ?stop
  case assign =>
    rintro l pre x V K hM hK
    gi_wp2
    have hb := (Below.refl V.heap.size V).alloc (Nat.le_refl _) (.cells #[.int .i64 x.x, .int .i64 x.y, .int .i64 x.d] 85)
    exact hK _ _ ((KeepsOthers.alloc _ _).from _) (hb.mono (by have := hM.b.size; omega)) (hM.keep hb hM.lt) ⟨V.heap.size, by simp [go_sem], by simp [go_sem], by simp [go_sem], rfl⟩
  case body =>
    rintro l pre x a' V hl hrec hM ⟨Bx, x0, x1, x2, rfl⟩ hpre
    obtain ⟨c0, c1, f1, hb⟩ := id hM
    have lt1 := hM.lt
    have CT : ∀ V', Below V.heap.size V V' → Calls Try.prog 91 #[.agg #[.int .i64 x.x, .int .i64 x.y, .int .i64 x.d], .pointer (some ⟨Bi, 0, none⟩)] V' fun e V2 => e = .returned (.int .i64 (if x.d == a then 1 else 0)) ∧ Below V'.heap.size V' V2 := fun V' hb' => HCT.out V' x (hb.trans (hb'.mono hb.size))
    obtain ⟨tl, htl⟩ : ∃ tl : Int, (if x.d == a then 1 else 0) = tl := ⟨_, rfl⟩
    have hsn : (sideN (pre ++ [x]) a : Int) = (sideN pre a : Int) + tl := by rw [sideN_app, ← htl]; split <;> simp
    have hsl := sideN_le pre a
    have wa : IntKind.i64.wrap ((sideN pre a : Int) + tl) = (sideN (pre ++ [x]) a : Int) := by
      rw [hsn]; refine IntWalk.i64_in _ ?_; rw [← htl]; split <;> omega
    rw [htl] at CT
    have HM := Lib.hid hM
    have CT' := Lib.hid CT
    have HSN := Lib.hid hsn
    have hmx : Try.prog.follows .mixedOrders = true := by kernel_rfl
    clear hM CT hlen hL hBs hc2 hS2 hrec htl hsn hsl
    gi_wp2
    gi_region_with_o ((try refine ⟨trivial, ?_⟩); gi_at_call 91; refine (CallsIn.inRound l (callsIn_wide.2 (CT'.out _ (by first | exact Below.refl _ _ | exact (Below.refl _ _).drew | exact below_drewN (Below.refl _ _) _)))).mono ?_; rintro e V2 ⟨rfl, hb2⟩; have hV2 : Below V.heap.size V V2 := (by first | exact hb2 | exact ((Below.refl _ _).drew).trans (hb2.mono (by first | exact Nat.le_refl _ | simp)) | exact (below_drewN (Below.refl _ _) _).trans (hb2.mono (by simp))); have S2 := HM.out.keep hV2 lt1; have c1' := S2.c1; have f1' := S2.f1)
    all_goals gi_wp2
    all_goals (try go_bits)
    all_goals exact ⟨(keepsFromQ_below hV2).trans ((KeepsOthers.setCell _ _ _).from _), (hV2.mono (by omega)).setCell (p := ⟨w.heap.size + 1, 0, none⟩) (by simp) _, S2.put _⟩
  case done =>
    rintro D ys V hD rfl hM hK
    obtain ⟨c0, c1, f1, hb⟩ := id hM
    have HM := Lib.hid hM
    clear hM hlen hL hBs hc2 hS2
    gi_wp2
    refine ⟨by simp, .inl ⟨_, _, rfl, run_takeDeferred hK, ?_⟩⟩
    exact ⟨_, results_tmp rfl _ _ _, rfl, HM.out.b.trans (belowK_b (w := w) (Nat.le_refl _) V D _ _ (by omega) hK rfl rfl)⟩
  case stop =>
    intro D c pre W _ _ h
    exact h.elim
theorem countQ_any (Bs Bc len cap : Nat) (A : Option Addr) (L : List Sq) (a : Int) (w : World) (hlen : L.length = len) (hreach : len ≤ 1000) (hBs : w.cell? ⟨Bs, 0, none⟩ = some (.slice A len cap)) (hL : SqsAt w w.heap.size A L) (hc : w.cell? ⟨Bc, 1, none⟩ = some (.int .i64 a)) :
    Calls Try.prog 67 #[(.func (.func 92) #[] #[.pointer (some ⟨Bs, 0, none⟩)]), .func (.func 69) #[] #[.pointer (some ⟨Bc, 0, none⟩)]] w fun e w' => e = .returned (.int .i64 (sideN L a)) ∧ Below w.heap.size w w' := by
  have hmf : ∀ (fn : Fn) (first cap : Array Value) (w : World), (Instr.makeFunc fn first cap).run Try.prog w = .ok (.func fn first cap) w := fun _ _ _ _ => rfl
  obtain ⟨W1, hW1⟩ : ∃ W1, W1 = w.alloc (.cells #[.func (.func 69) #[] #[.pointer (some ⟨Bc, 0, none⟩)]] 92) := ⟨_, rfl⟩
  have hb1 : Below w.heap.size w W1 := by rw [hW1]; exact (Below.refl _ _).alloc (Nat.le_refl _) _
  have C := sumQ_any Bs w.heap.size Bc len cap A L a W1 hlen hreach ((hb1.cell (p := ⟨Bs, 0, none⟩) (World.block_lt_of_cell? _ _ hBs)).trans hBs) ((hL.below hb1).mono hb1.size) (by rw [hW1]; simp [go_sem]) ((hb1.cell (p := ⟨Bc, 1, none⟩) (World.block_lt_of_cell? _ _ hc)).trans hc)
  have HC := Lib.hid C
  clear C hL hc hBs
  go_enter Try.func67, Try.ntmps67
  go_wp2_with fail
  rw [← hW1]
  clear hW1
  (with_reducible refine HC.out.mono ?_)
  rintro e w2 ⟨rfl, hb⟩
  go_wp2_with fail
  go_ret
  exact ⟨rfl, hb1.trans (hb.mono hb1.size)⟩
end Go.Proofs.Ytpbghalljfcaoaa
