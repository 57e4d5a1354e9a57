/- Ls, LsA: texts in one. -/
import Derived.Test.YtdpbjmdgjhleeaaSumL
import Derived.Test.YtdpbjmdgjhleeaaCnt
import Derived.Test.YtdpbjmdgjhleeaaFg
import Derived.Shelf.RegionOpen
import Derived.Test.YtdpbjmdgjhleeaaLwM
set_option linter.all false
namespace Go.Proofs.Ytdpbjmdgjhleeaa
open Go.RowKit Go.Shelf
attribute [local go_sem] Oper.semAt_some

def okL (W H : Int) : Bool := okF W H && decide (W * H ≤ 16)
theorem okL_nat {a b : Nat} : okL a b = true ↔ ((1 ≤ a ∧ a ≤ 6) ∧ 1 ≤ b ∧ b ≤ 6) ∧ a * b ≤ 16 := by
  unfold okL
  rw [Bool.and_eq_true, okF_iff, decide_eq_true_iff, ← Int.natCast_mul]
  omega
theorem okL_ex {W H : Int} (h : okL W H = true) : ∃ a b : Nat, W = a ∧ H = b := by
  unfold okL at h
  rw [Bool.and_eq_true, okF_iff] at h
  exact ⟨W.toNat, H.toNat, by omega, by omega⟩
theorem ctFew_any (W H : Int) (w : World) : Calls Try.prog 64 #[.int .i64 W, .int .i64 H] w fun e w' => e = .returned (.bool (okL W H)) ∧ w = w' := by
  have ha := ctSize_any W H w
  cases hok : okF W H with
  | false =>
    rw [hok] at ha
    unfold okL
    rw [hok]
    go_enter Try.func64, Try.ntmps64
    go_wp2_with fail
    refine ha.mono ?_
    rintro e w' ⟨rfl, rfl⟩
    go_wp2_with fail
    go_ret
    exact ⟨rfl, rfl⟩
  | true =>
    rw [hok] at ha
    have h := okF_iff.1 hok
    unfold okL
    rw [hok]
    obtain ⟨a, rfl⟩ := Int.eq_ofNat_of_zero_le (show 0 ≤ W by omega)
    obtain ⟨b, rfl⟩ := Int.eq_ofNat_of_zero_le (show 0 ≤ H by omega)
    have h36 : a * b ≤ 36 := Nat.le_trans (Nat.mul_le_mul (show a ≤ 6 by omega) (show b ≤ 6 by omega)) (by decide)
    obtain ⟨p, hp⟩ : ∃ p, a * b = p := ⟨_, rfl⟩
    have hm : (a : Int) * (b : Int) = (p : Int) := by rw [← hp]; simp
    rw [hp] at h36
    have wa : IntKind.i64.wrap ((a : Int) * (b : Int)) = (p : Int) := by rw [hm]; exact IntWalk.i64_in _ (by omega)
    rw [hm]
    clear hp hok
    go_enter Try.func64, Try.ntmps64
    go_wp2_with fail
    refine ha.mono ?_
    rintro e w' ⟨rfl, rfl⟩
    go_wp2_with fail
    go_ret
    exact ⟨ret_bool (by rw [Bool.eq_iff_iff]; simp; try omega), rfl⟩
theorem valuesC_eq (A : Option Addr) (n c : Nat) (w : World) :
    Calls Try.prog 114 #[.slice A n c] w fun e w' => e = .returned (.func (.func 134) #[] #[.pointer (some ⟨w.heap.size, 0, none⟩)]) ∧ w' = w.alloc (.cells #[.slice A n c] 38) := by
  go_enter Try.func114, Try.ntmps114
  go_wp2
  go_ret
  exact ⟨rfl, rfl⟩
set_option maxRecDepth 100000 in
theorem emptyC_seq (n Bs c : Nat) (A : Option Addr) (w : World) (hB : w.cell? ⟨Bs, 0, none⟩ = some (.slice A 0 c)) :
    SeqX Fence.wide n Try.prog 134 #[.pointer (some ⟨Bs, 0, none⟩)] (encC 0 0) (fun _ _ _ => False) (fun xs => xs = []) (fun _ => False) w := by
  intro l J Jx V hV hJ hJx hY h0
  have c0 := (hV.cell (p := ⟨Bs, 0, none⟩) (World.block_lt_of_cell? _ _ hB)).trans hB
  clear hY
  refine (callsIn_wide (n := n)).2 ?_
  show Calls Try.prog 134 #[.func (.yield l) #[] #[], .pointer (some ⟨Bs, 0, none⟩)] V _
  go_enter Try.func134, Try.ntmps134
  go_wp2_with fail
  refine wp_loop_rounds 1 ?_
  rw [rounds_succ]
  go_wp2_with fail
  go_end0
  exact ⟨⟨_, rfl⟩, .inl ⟨[], _, rfl, h0⟩⟩
set_option maxRecDepth 100000 in
set_option maxHeartbeats 4000000 in
theorem sumE_any (Bs c : Nat) (A : Option Addr) (TV : Value) (w : World) (hB : w.cell? ⟨Bs, 0, none⟩ = some (.slice A 0 c)) (ht : ∃ f b cc, TV = .func f b cc) :
    Calls Try.prog 135 #[(.func (.func 134) #[] #[.pointer (some ⟨Bs, 0, none⟩)]), TV] w fun e w' => e = .returned (.int .i64 0) ∧ Below w.heap.size w w' := by
  obtain ⟨tf, tb, tc, rfl⟩ := ht
  obtain ⟨TV, hTV⟩ : ∃ TV, TV = Value.func tf tb tc := ⟨_, rfl⟩
  obtain ⟨W2, hW2⟩ : ∃ W2, W2 = (w.alloc (.cells #[Value.func tf tb tc] 122)).alloc (.cells #[.int .i64 0] 3) := ⟨_, rfl⟩
  have hz2 : W2.heap.size = w.heap.size + 2 := by rw [hW2]; simp
  have hB2 : Below w.heap.size w W2 := by rw [hW2]; exact ((Below.refl _ _).alloc (Nat.le_refl _) _).alloc (by simp) _
  have hS2 : SM w.heap.size (Value.func tf tb tc) 0 w W2 := by
    refine ⟨?_, ?_, ?_, hB2⟩
    · rw [hW2, World.cell?_alloc_lt _ _ _ (by simp)]; simp [go_sem]
    · rw [hW2]; simp [go_sem]
    · rw [hW2]; exact World.frozen?_alloc_at _ _ _ _ (by simp)
  have cb := (hB2.cell (p := ⟨Bs, 0, none⟩) (World.block_lt_of_cell? _ _ hB)).trans hB
  refine (callsIn_wide (n := 5)).1 ?_
  refine callsIn_of_wp_marks Try.func135 rfl trivial ?_ rfl
  simp only [Try.ntmps135, List.size_toArray, List.length_cons, List.length_nil, Nat.reduceAdd, Nat.reduceSub, Array.replicate_succ, Array.replicate_zero, List.push_toArray, List.append_toArray, List.nil_append, List.cons_append]
  gi_wp2
  rw [← hW2]
  clear hW2
  refine wpIn_rangeFunc_x rfl (by decide) (gf := 134) (lb := #[.pointer (some ⟨Bs, 0, none⟩)]) rfl trivial (enters_of Try.func134 (by kernel_rfl) rfl)
    (emptyC_seq _ Bs c A W2 cb) (fun X x A k o o' h hk ho => h.elim) (Below.refl _ _) (fun _ => rfl)
    (fun X pre V => (∀ k, X k → W2.heap.size ≤ k) ∧ SM w.heap.size (Value.func tf tb tc) 0 w V) (fun _ _ _ => False)
    (ownX_below W2.heap.size (fun (pre : List CV) V => SM w.heap.size (Value.func tf tb tc) 0 w V) (fun s A C h hb => h.keep hb (by omega)))
    ⟨fun _ _ _ _ _ h _ _ _ => h.elim, fun _ _ _ _ _ _ h _ _ _ => h.elim, fun _ _ _ _ h _ => h.elim⟩ ⟨fun k h => h.elim, hS2⟩
    (fun x a' V => False) (fun x a' A k o o' h hk ho => h) ?assign ?body ?done ?stop
  case assign =>
    rintro l X pre x V K h hok
    exact hok.elim
  case body =>
    rintro l X pre x a' V h hok
    exact hok.elim
  case done =>
    rintro D ys X V hD hys ⟨hX, hM⟩ hK
    obtain ⟨c0, c1, f1, hb⟩ := id hM
    have HM := Lib.hid hM
    clear hM hX hS2
    gi_wp2
    refine ⟨by simp, .inl ⟨_, _, rfl, run_takeDeferred hK, ?_⟩⟩
    exact ⟨_, results_tmp rfl _ _ _, rfl, HM.out.b.trans (belowK_b (w := w) (Nat.le_refl _) V D _ _ (by omega) hK rfl rfl)⟩
  case stop =>
    intro D pre V _ _ h
    exact h.elim
theorem countE_any (Bs c : Nat) (A : Option Addr) (f : Fn) (b : Array Value) (cc : Array Value) (w : World) (hB : w.cell? ⟨Bs, 0, none⟩ = some (.slice A 0 c)) :
    Calls Try.prog 116 #[(.func (.func 134) #[] #[.pointer (some ⟨Bs, 0, none⟩)]), .func f b cc] w fun e w' => e = .returned (.int .i64 0) ∧ Below w.heap.size w w' := by
  obtain ⟨w1, hw1⟩ : ∃ w1, w1 = w.alloc (.cells #[.func f b cc] 55) := ⟨_, rfl⟩
  have hb1 : Below w.heap.size w w1 := by rw [hw1]; exact (Below.refl _ _).alloc (Nat.le_refl _) _
  have cb := (hb1.cell (p := ⟨Bs, 0, none⟩) (World.block_lt_of_cell? _ _ hB)).trans hB
  have C := sumE_any Bs c A (.func (.func 136) #[] #[.pointer (some ⟨w.heap.size, 0, none⟩)]) w1 cb ⟨_, _, _, rfl⟩
  go_enter Try.func116, Try.ntmps116
  go_wp2_with fail
  rw [← hw1]
  refine C.mono ?_
  rintro e w2 ⟨rfl, hb2⟩
  clear hw1
  go_wp2_with fail
  go_ret
  exact ⟨rfl, hb1.trans (hb2.mono hb1.size)⟩
set_option maxHeartbeats 2000000 in
theorem listed_yes (a b : Nat) (hok : okL a b = true) (w : World) :
    Calls Try.prog 66 #[.int .i64 a, .int .i64 b] w fun e w' => e = .returned (.tuple #[.func (.func 152) #[] #[.pointer (some ⟨w.heap.size, 0, none⟩), .pointer (some ⟨w.heap.size + 1, 0, none⟩)], .bool true]) ∧ w' = (w.alloc (.cells #[.int .i64 a] 3)).alloc (.cells #[.int .i64 b] 3) := by
  have h := okL_nat.1 hok
  have hF : okF a b = true := okF_iff.2 (by omega)
  have C := counted_yes a b hF w
  obtain ⟨p, hp⟩ : ∃ p, a * b = p := ⟨_, rfl⟩
  have hm : (a : Int) * (b : Int) = (p : Int) := by rw [← hp]; simp
  have h16 := h.2
  rw [hp] at h16
  have wa : IntKind.i64.wrap ((a : Int) * (b : Int)) = (p : Int) := by rw [hm]; exact IntWalk.i64_in _ (by omega)
  have hd : decide ((16 : Int) < (p : Int)) = false := by rw [decide_eq_false_iff_not]; omega
  clear hp hok hF
  go_enter Try.func66, Try.ntmps66
  go_wp2_with fail
  refine C.mono ?_
  rintro e w' ⟨rfl, rfl⟩
  go_wp2_with fail
  go_ret2
  exact ⟨rfl, rfl⟩
set_option maxHeartbeats 2000000 in
theorem listed_no (W H : Int) (hno : okL W H = false) (w : World) :
    Calls Try.prog 66 #[.int .i64 W, .int .i64 H] w fun e w' => ∃ Bs A c, e = .returned (.tuple #[.func (.func 134) #[] #[.pointer (some ⟨Bs, 0, none⟩)], .bool false]) ∧ w'.cell? ⟨Bs, 0, none⟩ = some (.slice A 0 c) ∧ Below w.heap.size w w' := by
  cases hF : okF W H with
  | false =>
    have C := counted_no W H hF w
    go_enter Try.func66, Try.ntmps66
    go_wp2_with fail
    refine C.mono ?_
    rintro e w2 ⟨⟨v, rfl⟩, hb2⟩
    have hs2 := hb2.size
    go_wp2_with fail
    refine (valuesC_eq _ _ _ _).mono ?_
    rintro e w' ⟨rfl, rfl⟩
    go_wp2_with fail
    go_ret2
    exact ⟨w2.heap.size + 1, some ⟨w2.heap.size, 0, none⟩, 0, rfl, by simp [go_sem], ((hb2.alloc hs2 _).alloc (by simp; omega) _)⟩
  | true =>
    have h := okF_iff.1 hF
    obtain ⟨a, rfl⟩ := Int.eq_ofNat_of_zero_le (show 0 ≤ W by omega)
    obtain ⟨b, rfl⟩ := Int.eq_ofNat_of_zero_le (show 0 ≤ H by omega)
    have C := counted_yes a b hF w
    have hx : ¬ a * b ≤ 16 := fun e => by
      have : okL a b = true := okL_nat.2 ⟨by omega, e⟩
      rw [this] at hno; cases hno
    have h36 : a * b ≤ 36 := Nat.le_trans (Nat.mul_le_mul (show a ≤ 6 by omega) (show b ≤ 6 by omega)) (by decide)
    obtain ⟨p, hp⟩ : ∃ p, a * b = p := ⟨_, rfl⟩
    have hm : (a : Int) * (b : Int) = (p : Int) := by rw [← hp]; simp
    rw [hp] at hx h36
    have wa : IntKind.i64.wrap ((a : Int) * (b : Int)) = (p : Int) := by rw [hm]; exact IntWalk.i64_in _ (by omega)
    have hd : decide ((16 : Int) < (p : Int)) = true := by rw [decide_eq_true_iff]; omega
    clear hp hno hF
    go_enter Try.func66, Try.ntmps66
    go_wp2_with fail
    refine C.mono ?_
    rintro e w2 ⟨rfl, hw2⟩
    have hb2 : Below w.heap.size w w2 := by rw [hw2]; exact ((Below.refl _ _).alloc (Nat.le_refl _) _).alloc (by simp) _
    clear hw2 C
    have hs2 := hb2.size
    go_wp2_with fail
    refine (valuesC_eq _ _ _ _).mono ?_
    rintro e w' ⟨rfl, rfl⟩
    go_wp2_with fail
    go_ret2
    exact ⟨w2.heap.size + 1, some ⟨w2.heap.size, 0, none⟩, 0, rfl, by simp [go_sem], ((hb2.alloc hs2 _).alloc (by simp; omega) _)⟩
theorem countListed_no (W H : Int) (hno : okL W H = false) (f : Fn) (b cc : Array Value) (w : World) :
    Calls Try.prog 69 #[.int .i64 W, .int .i64 H, .func f b cc] w fun e w' => e = .returned (.tuple #[.int .i64 0, .bool false]) ∧ Below w.heap.size w w' := by
  have C := listed_no W H hno w
  clear hno
  go_enter Try.func69, Try.ntmps69
  go_wp2_with fail
  refine C.mono ?_
  rintro e w2 ⟨Bs, A, c, rfl, hB, hb2⟩
  go_wp2_with fail
  refine (countE_any Bs c A f b cc w2 hB).mono ?_
  rintro e w3 ⟨rfl, hb3⟩
  go_wp2_with fail
  go_ret2
  exact ⟨rfl, hb2.trans (hb3.mono hb2.size)⟩
/-- How many of the cuts of a width and a height are what is asked for. -/
noncomputable def cntL (W H : Int) (p : List Sq → Bool) : Int := if okL W H then (((allF W.toNat H.toNat).filter p).length : Nat) else 0
theorem cntL_no {W H : Int} {p : List Sq → Bool} (h : okL W H = false) : cntL W H p = 0 := by unfold cntL; rw [if_neg (by rw [h]; decide)]
theorem cntL_yes {a b : Nat} {p : List Sq → Bool} (h : okL a b = true) : cntL a b p = (((allF a b).filter p).length : Nat) := by unfold cntL; rw [if_pos h]; rfl
theorem allF_few {a b : Nat} (h : okL a b = true) : (allF a b).length ≤ 65536 := by
  have h := okL_nat.1 h
  have := fills_few (m := 6) (k := a * b) (show 1 ≤ a by omega) (Fl.start a (H := b) (by omega))
  rw [free_start] at this
  exact Nat.le_trans this (Nat.pow_le_pow_right (by decide) h.2)
set_option maxRecDepth 100000 in
set_option maxHeartbeats 16000000 in
theorem sumC_p (W H : Nat) (hW : 1 ≤ W ∧ W ≤ 6) (hH : 1 ≤ H ∧ H ≤ 6) (Bw Bh : Nat) (Bi : Nat) (t : List Sq → Int) (w : World) (hw : w.cell? ⟨Bw, 0, none⟩ = some (.int .i64 W)) (hh : w.cell? ⟨Bh, 0, none⟩ = some (.int .i64 H))
    (CT : ∀ (V : World) (L : List Sq) (A : Option Addr) (c : Nat), Below w.heap.size w V → L ∈ allF W H → L.length ≤ c → SqsAt V V.heap.size A L → Calls Try.prog 136 #[.agg #[.int .i64 W, .int .i64 H, .slice A L.length c], .pointer (some ⟨Bi, 0, none⟩)] V fun e V' => e = .returned (.int .i64 (t L)) ∧ Below V.heap.size V V') :
    Calls Try.prog 135 #[(.func (.func 152) #[] #[.pointer (some ⟨Bw, 0, none⟩), .pointer (some ⟨Bh, 0, none⟩)]), (.func (.func 136) #[] #[.pointer (some ⟨Bi, 0, none⟩)])] w fun e w' => e = .returned (.int .i64 (wtell t (allF W H))) ∧ Below w.heap.size w w' := by
  obtain ⟨W2, hW2⟩ : ∃ W2, W2 = (w.alloc (.cells #[(.func (.func 136) #[] #[.pointer (some ⟨Bi, 0, none⟩)])] 122)).alloc (.cells #[.int .i64 0] 3) := ⟨_, rfl⟩
  have hz2 : W2.heap.size = w.heap.size + 2 := by rw [hW2]; simp
  have hB2 : Below w.heap.size w W2 := by rw [hW2]; exact ((Below.refl _ _).alloc (Nat.le_refl _) _).alloc (by simp) _
  have hS2 : SM w.heap.size (.func (.func 136) #[] #[.pointer (some ⟨Bi, 0, none⟩)]) 0 w W2 := by
    refine ⟨?_, ?_, ?_, hB2⟩
    · rw [hW2, World.cell?_alloc_lt _ _ _ (by simp)]; simp [go_sem]
    · rw [hW2]; simp [go_sem]
    · rw [hW2]; exact World.frozen?_alloc_at _ _ _ _ (by simp)
  have cw := (hB2.cell (p := ⟨Bw, 0, none⟩) (World.block_lt_of_cell? _ _ hw)).trans hw
  have ch := (hB2.cell (p := ⟨Bh, 0, none⟩) (World.block_lt_of_cell? _ _ hh)).trans hh
  have HCT := Lib.hid CT
  clear CT
  refine (callsIn_wide (n := 5)).1 ?_
  refine callsIn_of_wp_marks Try.func135 rfl trivial ?_ rfl
  simp only [Try.ntmps135, List.size_toArray, List.length_cons, List.length_nil, Nat.reduceAdd, Nat.reduceSub, Array.replicate_succ, Array.replicate_zero, List.push_toArray, List.append_toArray, List.nil_append, List.cons_append]
  gi_wp2
  rw [← hW2]
  clear hW2
  refine wpIn_rangeFunc_x rfl (by decide) (gf := 152) (lb := #[.pointer (some ⟨Bw, 0, none⟩), .pointer (some ⟨Bh, 0, none⟩)]) rfl trivial (enters_of Try.func152 (by kernel_rfl) rfl)
    (fill_seq W H hW hH _ Bw Bh W2 cw ch) (fun X x A k o o' h hk ho => ⟨h.1, okC_put h.2 hk ho⟩) (Below.refl _ _) (fun _ => rfl)
    (fun X pre V => (∀ k, X k → W2.heap.size ≤ k) ∧ SM w.heap.size (.func (.func 136) #[] #[.pointer (some ⟨Bi, 0, none⟩)]) (wtell t (firsts pre)) w V) (fun _ _ _ => False)
    (ownX_below W2.heap.size (fun (pre : List CV) V => SM w.heap.size (.func (.func 136) #[] #[.pointer (some ⟨Bi, 0, none⟩)]) (wtell t (firsts pre)) w V) (fun s A C h hb => h.keep hb (by omega)))
    ⟨fun _ _ _ _ _ h _ _ _ => h.elim, fun _ _ _ _ _ _ h _ _ _ => h.elim, fun _ _ _ _ h _ => h.elim⟩ ⟨fun k h => h.elim, hS2⟩
    (fun x a' V => ∃ Bx, V.cell? ⟨Bx, 0, none⟩ = some (.int .i64 W) ∧ V.cell? ⟨Bx, 1, none⟩ = some (.int .i64 H) ∧ V.cell? ⟨Bx, 2, none⟩ = some (.slice x.2.1 x.1.length x.2.2) ∧ a' = { tmps := #[.func (.func 152) #[] #[.pointer (some ⟨Bw, 0, none⟩), .pointer (some ⟨Bh, 0, none⟩)], .func (.func 136) #[] #[.pointer (some ⟨Bi, 0, none⟩)], undef, .pointer (some ⟨w.heap.size, 0, none⟩), .int .i64 0, .pointer (some ⟨w.heap.size + 1, 0, none⟩), .pointer (some ⟨Bx, 0, none⟩), .func (.func 152) #[] #[.pointer (some ⟨Bw, 0, none⟩), .pointer (some ⟨Bh, 0, none⟩)], .agg #[.int .i64 W, .int .i64 H, .slice x.2.1 x.1.length x.2.2], undef, undef, undef, undef, undef, undef], defers := [] })
    (fun x a' A k o o' h hk ho => by
      obtain ⟨Bx, h0, h1, h2, h3⟩ := h
      have q : ∀ {p : Addr} {v : Value}, A.cell? p = some v → (A.putObj k o').cell? p = some v := fun h => cell_kept h (grownBy_putObj' A k o') (fun r e => by cases e; exact ⟨o, hk, ho⟩)
      exact ⟨Bx, q h0, q h1, q h2, h3⟩) ?assign ?body ?done ?stop
  case assign =>
    rintro l X pre ⟨L, A, c⟩ V K ⟨hX, hM⟩ hok hX2 hsz hK
    dsimp only [encC]
    gi_wp2
    have hb := (Below.refl V.heap.size V).alloc (Nat.le_refl _) (.cells #[.int .i64 W, .int .i64 H, .slice A L.length c] 28)
    exact hK _ _ ((KeepsOthers.alloc _ _).from _) ⟨by simp, fun k hk => Below.heap_alloc V _ k (hX2 k hk).2⟩ ⟨hX, hM.keep hb (by omega)⟩ ⟨hok.1, hok.2.1.alloc _, hok.2.2⟩ ⟨V.heap.size, by simp [go_sem], by simp [go_sem], by simp [go_sem], rfl⟩
  case body =>
    rintro l X pre ⟨L, A, c⟩ a' V ⟨hX, hM⟩ hok ⟨Bx, x0, x1, x2, rfl⟩ hX2 hsz
    dsimp only at x0 x1 x2 ⊢
    obtain ⟨c0, c1, f1, hb⟩ := id hM
    have hsq := sqs_of_own hok.2.1
    have hcap := own_cap hok.2.1
    have lt1 : w.heap.size + 1 < V.heap.size := by omega
    have CT : ∀ V', Below V.heap.size V V' → Calls Try.prog 136 #[.agg #[.int .i64 W, .int .i64 H, .slice A L.length c], .pointer (some ⟨Bi, 0, none⟩)] V' fun e V2 => e = .returned (.int .i64 (t L)) ∧ Below V'.heap.size V' V2 := fun V' hb' =>
      HCT.out V' L A c (hb.trans (hb'.mono hb.size)) hok.1 hcap ((hsq.below hb').mono hb'.size)
    have HM := Lib.hid hM
    have HX := Lib.hid hX
    have HX2 := Lib.hid hX2
    have CT' := Lib.hid CT
    have hmx : Try.prog.follows .mixedOrders = true := by kernel_rfl
    clear hM hX hX2 CT hok hsq hcap cw ch hw hh hS2
    gi_wp2
    gi_region_with_o ((try refine ⟨trivial, ?_⟩); gi_at_call 136; refine (CallsIn.inRound l (callsIn_wide.2 (CT'.out _ (by first | exact Below.refl _ _ | exact (Below.refl _ _).drew | exact below_drewN (Below.refl _ _) _)))).mono ?_; rintro e V2 ⟨rfl, hb2⟩; have hV2 : Below V.heap.size V V2 := (by first | exact hb2 | exact ((Below.refl _ _).drew).trans (hb2.mono (by first | exact Nat.le_refl _ | simp)) | exact (below_drewN (Below.refl _ _) _).trans (hb2.mono (by simp))); have S2 := HM.out.keep hV2 lt1; have c1' := S2.c1; have f1' := S2.f1)
    all_goals gi_wp2
    all_goals (try go_bits)
    all_goals exact ⟨(keepsFrom_below hV2).trans ((KeepsOthers.setCell _ _ _).from _), ⟨by have := hV2.size; simpa [World.setCell] using this, fun k hk => (Below.heap_setCell V2 _ _ k (by have := HX.out k hk; show k ≠ w.heap.size + 1; omega)).trans (hV2.block k (HX2.out k hk).2)⟩, HX.out, by
      have e : firsts (pre ++ [(L, A, c)]) = firsts pre ++ [L] := by simp [firsts]
      show SM _ _ (wtell t (firsts (pre ++ [(L, A, c)]))) _ _
      rw [e, wtell_snoc]
      exact S2.put _⟩
  case done =>
    rintro D ys X V hD hys ⟨hX, hM⟩ hK
    rw [show firsts ys = allF W H from hys] at hM
    obtain ⟨c0, c1, f1, hb⟩ := id hM
    have HM := Lib.hid hM
    clear hM hX hw hh cw ch hS2
    gi_wp2
    refine ⟨by simp, .inl ⟨_, _, rfl, run_takeDeferred hK, ?_⟩⟩
    exact ⟨_, results_tmp rfl _ _ _, rfl, HM.out.b.trans (belowK_b (w := w) (Nat.le_refl _) V D _ _ (by omega) hK rfl rfl)⟩
  case stop =>
    intro D pre V _ _ h
    exact h.elim
theorem allF_good {a b : Nat} (h : okL a b = true) : ∀ L ∈ allF a b, Good a b L := fun L hL => by
  have h := okL_nat.1 h
  exact fills_good (m := 6) (by omega) (by omega) (by decide) (by omega) L hL
/-- How many of the first k are what is asked for. -/
def cntT (p : List Sq → Bool) (R : List (List Sq)) (k : Nat) : Nat := ((R.take k).filter p).length
theorem cntT_yes {p : List Sq → Bool} {R : List (List Sq)} {k : Nat} {L : List Sq} (h : R[k]? = some L) (hp : p L = true) : cntT p R (k + 1) = cntT p R k + 1 := by
  unfold cntT; rw [List.take_add_one, h, List.filter_append]; simp [hp]
theorem cntT_no {p : List Sq → Bool} {R : List (List Sq)} {k : Nat} {L : List Sq} (h : R[k]? = some L) (hp : p L = false) : cntT p R (k + 1) = cntT p R k := by
  unfold cntT; rw [List.take_add_one, h, List.filter_append]; simp [hp]
theorem cntT_all (p : List Sq → Bool) (R : List (List Sq)) : cntT p R R.length = (R.filter p).length := by unfold cntT; rw [List.take_length]
theorem cntT_le (p : List Sq → Bool) (R : List (List Sq)) (k : Nat) : cntT p R k ≤ R.length := Nat.le_trans (List.length_filter_le _ _) (by rw [List.length_take]; omega)
theorem wf_good {W H : Int} {L : List Sq} (hG : Good W H L) : ∀ s ∈ L, wfS s := fun s hs => by
  have := (good_fill hG).within s hs
  have h1 := hG.1
  have h2 := hG.2.1
  unfold Within at this
  unfold wfS wfI
  omega
end Go.Proofs.Ytdpbjmdgjhleeaa

