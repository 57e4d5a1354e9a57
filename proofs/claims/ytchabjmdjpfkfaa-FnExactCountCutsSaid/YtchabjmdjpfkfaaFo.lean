/- The program's recursive filling: every way of filling is handed to the loop, one after the other. -/
import Derived.Test.YtchabjmdjpfkfaaRfx
import Derived.Test.YtchabjmdjpfkfaaFf
import Derived.Test.YtchabjmdjpfkfaaCvd
import Derived.Test.YtchabjmdjpfkfaaCutOfI
import Derived.Test.YtchabjmdjpfkfaaLast
import Derived.Shelf.RegionOpen
import Derived.TacticsInMore
import Derived.LoopNIn
import Derived.LoopIn
import Derived.Deep.DeepCutAuto
set_option linter.all false
namespace Go.Proofs.Ytchabjmdjpfkfaa
open Go.RowKit Go.Shelf
attribute [local go_sem] Oper.semAt_some

/-- What the loop holds, and where the iterator's blocks lie. -/
structure JB (J : (Nat → Prop) → List CV → World → Prop) (B : Nat) (X : Nat → Prop) (s : List CV) (W : World) : Prop where
  j : J X s W
  x : ∀ k, X k → B ≤ k ∧ k < W.heap.size
  b : B ≤ W.heap.size
theorem JB.grow {J : (Nat → Prop) → List CV → World → Prop} {B : Nat} {X : Nat → Prop} {s : List CV} {A C : World} {row : Option Nat} (h : JB J B X s A) (hJ : AbX J) (hg : A.grownBy C row) (hr : ∀ r, row = some r → X r) : JB J B (newX X A C) s C :=
  ⟨hJ.grow _ _ _ _ _ h.j hg hr, fun k hk => by
    rcases hk with hk | hk
    · have := h.x k hk; have := hg.size; omega
    · have := h.b; omega, by have := h.b; have := hg.size; omega⟩
theorem JB.less {J : (Nat → Prop) → List CV → World → Prop} {B : Nat} {X X' : Nat → Prop} {s : List CV} {A : World} (h : JB J B X s A) (hJ : AbX J) (hx : ∀ k, X' k → X k) : JB J B X' s A := ⟨hJ.less _ _ _ _ h.j hx, fun k hk => h.x k (hx k hk), h.b⟩
theorem grown_belowF {A C : World} (h : Below A.heap.size A C) : A.grownBy C none := ⟨h.os, h.tape, h.output, h.size, fun k hk _ => h.block k hk⟩
theorem grown_put (A : World) (p : Addr) (v : Value) : A.grownBy (A.setCell p v) (some p.block) := put_grown A p v

/-- What comes of filling on. -/
def FillPost (J Jx : (Nat → Prop) → List CV → World → Prop) (B : Nat) (X : Nat → Prop) (pre : List CV) (L : List Sq) (A : Option Addr) (n c : Nat) (R : List (List Sq)) (W : World) (e : Ending) (W' : World) : Prop :=
  (e = .returned (.bool true) ∧ ∃ (X' : Nat → Prop) (ys : List CV), (∀ k, X k → X' k) ∧ ys.map (·.1) = R.map (L ++ ·) ∧ JB J B X' (pre ++ ys) W' ∧ W.heap.size ≤ W'.heap.size ∧
    (∀ k, X k → some k ≠ (Value.slice A n c).ownBlock → W'.heap[k]? = W.heap[k]?) ∧ W'.ownsRow B 77 3 (.slice A n c) n (flat L)) ∨
  (e = .returned (.bool false) ∧ ∃ (X' : Nat → Prop) (ys : List CV) (zs : List (List Sq)), ys.map (·.1) ++ zs = R.map (L ++ ·) ∧ Jx X' (pre ++ ys) W' ∧ W.heap.size ≤ W'.heap.size ∧ (∀ k, X k → some k ≠ (Value.slice A n c).ownBlock → W'.heap[k]? = W.heap[k]?))

theorem room_free {F : Fence} (h : F.depth = none) (k : Nat) : F.room k := fun d e => by rw [h] at e; cases e
theorem yield_any {F : Fence} (h : F.depth = none) {m : Nat} (m' : Nat) {P : Program} {l : Nat} {args : Array Value} {W : World} {R : Ending → World → Prop} (hy : YieldAt F m P l args W R) : YieldAt F m' P l args W R := by
  obtain ⟨fn, tmps, assign, body, h1, h2, h3⟩ := hy
  exact ⟨fn, tmps, assign, body, h1, h2, fun c cs _ => h3 c cs (room_free h _)⟩

set_option maxHeartbeats 1000000 in
theorem clone64_any (A : Option Addr) (n c : Nat) (L : List Sq) (w : World) (hl : L.length = n) (hn : n ≤ 64) (hA : A = none → n = 0 ∧ c = 0) (hL : SqsAt w w.heap.size A L) :
    Calls Try.prog 141 #[.slice A n c] w fun e w' => ∃ A' c', e = .returned (.slice A' n c') ∧ w'.ownsRow w.heap.size 77 3 (.slice A' n c') n (flat L) ∧ Below w.heap.size w w' := by
  have q : ∀ (w : World) (a : Option Addr) (n c n' c' : Nat), (binOp .eql 48 (.slice a n c) (.slice none n' c')).run Try.prog w = .ok (.bool a.isNone) w := fun w a n c n' c' => Lib.run_eql_slice_nil w _ _ a n c n' c' Try.underlying48
  have hsrc := src_sqs hl hL hA
  cases A with
  | none =>
    obtain ⟨rfl, rfl⟩ := hA rfl
    have : L = [] := List.eq_nil_of_length_eq_zero hl
    subst this
    go_enter Try.func141, Try.ntmps141
    go_wp2
    go_ret
    exact ⟨none, 0, rfl, World.ownsRow_nil _ _ _ _, Below.refl _ _⟩
  | some ad =>
    obtain ⟨i0, hi, hz0, hz1, hz2⟩ := info_parts infoSq
    have hsrc' : ∀ o, Src (w.alloc o) (some ad) n c (flat L) := by
      intro o
      rcases hsrc with ⟨h, _⟩ | ⟨ad', h, hc⟩
      · cases h
      · refine .inr ⟨ad', h, fun j u hu => ?_⟩
        have h1 := hc j u hu
        rw [World.cell?_alloc_lt w o _ (World.block_lt_of_cell? _ _ h1)]
        exact h1
    have hfl : (flat L).length = n * 3 := by rw [flat_len, hl]
    have HFL := Lib.hid hfl
    have hr1 : 0 + n ≤ maxLen := by unfold maxLen; omega
    clear hfl hsrc hL hl hA
    go_enter Try.func141, Try.ntmps141
    go_wp2_with (at_builtin; refine app_list rfl _ _ _ rfl w.heap.size 77 i0 (.agg #[.int .i64 0, .int .i64 0, .int .i64 0]) 3 24 Try.underlying48 hi hz0 hz1 hz2 rfl (by decide) (.slice (some ⟨w.heap.size, 0, none⟩) 0 0) 0 [] rfl (World.ownsRow_lit w #[] 0 (Nat.le_refl _) (Nat.zero_le _) rfl) (some ad) n c (flat L) rfl HFL.out (hsrc' _) (flat_one _) hr1 (by omega) (by simp) ?_; intro v' w1 hown hgr _; have hb : Below w.heap.size w w1 := ((Below.refl _ w).alloc (Nat.le_refl _) _).grown hgr (by simp) (fun kk hkk => by simp [Value.ownBlock] at hkk; omega))
    go_ret
    simp only [Nat.zero_add, List.nil_append] at hown
    obtain ⟨A', c', rfl⟩ := own_val hown
    exact ⟨A', c', rfl, hown, hb⟩

/-- The call's two boxes: the cut under way, and the line. -/
structure FB (w : World) (W H : Int) (v : Value) (g : List Int) (wr : World) : Prop where
  c0 : wr.cell? ⟨w.heap.size, 0, none⟩ = some (.int .i64 W)
  c1 : wr.cell? ⟨w.heap.size, 1, none⟩ = some (.int .i64 H)
  c2 : wr.cell? ⟨w.heap.size, 2, none⟩ = some v
  cf : ∀ o, wr.frozen? ⟨w.heap.size, o, none⟩ = false
  l : Cols wr (w.heap.size + 1) g
  sz : w.heap.size + 2 ≤ wr.heap.size
theorem FB.keep {w wr w' : World} {W H : Int} {v : Value} {g : List Int} (h : FB w W H v g wr) (hs : wr.heap.size ≤ w'.heap.size) (h1 : w'.heap[w.heap.size]? = wr.heap[w.heap.size]?) (h2 : w'.heap[w.heap.size + 1]? = wr.heap[w.heap.size + 1]?) : FB w W H v g w' :=
  ⟨(World.cell?_of_block (a := ⟨w.heap.size, 0, none⟩) h1).trans h.c0, (World.cell?_of_block (a := ⟨w.heap.size, 1, none⟩) h1).trans h.c1, (World.cell?_of_block (a := ⟨w.heap.size, 2, none⟩) h1).trans h.c2, fun o => (World.frozen?_of_block (a := ⟨w.heap.size, o, none⟩) h1).trans (h.cf o),
    fun j u hu => (World.cell?_of_block (a := ⟨w.heap.size + 1, j, none⟩) h2).trans (h.l j u hu), Nat.le_trans h.sz hs⟩
theorem FB.below {w wr w' : World} {W H : Int} {v : Value} {g : List Int} (h : FB w W H v g wr) (hb : Below wr.heap.size wr w') : FB w W H v g w' := h.keep hb.size (hb.block _ (by have := h.sz; omega)) (hb.block _ (by have := h.sz; omega))
theorem FB.put {w wr : World} {W H : Int} {v : Value} {g : List Int} (h : FB w W H v g wr) (u : Value) : FB w W H u g (wr.setCell ⟨w.heap.size, 2, none⟩ u) := by
  have ne : ∀ o, o ≠ 2 → (⟨w.heap.size, 2, none⟩ : Addr) ≠ ⟨w.heap.size, o, none⟩ := fun o ho e => ho (Addr.mk.inj e).2.1.symm
  exact ⟨(World.cell?_setCell_other _ _ _ _ (ne 0 (by decide))).trans h.c0, (World.cell?_setCell_other _ _ _ _ (ne 1 (by decide))).trans h.c1, World.cell?_setCell_same _ _ _ h.c2, fun o => by rw [World.frozen?_setCell]; exact h.cf o,
    fun j q hq => (World.cell?_setCell_other _ _ _ _ (fun e => by have := (Addr.mk.inj e).1; omega)).trans (h.l j q hq), by simpa [World.setCell] using h.sz⟩
theorem FB.start (w : World) (W H : Int) (v : Value) (g : List Int) : FB w W H v g ((w.alloc (.cells #[.int .i64 W, .int .i64 H, v] 50)).alloc (.cells (ints g).toArray 112)) := by
  obtain ⟨V, hV⟩ : ∃ V, V = w.alloc (.cells #[.int .i64 W, .int .i64 H, v] 50) := ⟨_, rfl⟩
  have hz : V.heap.size = w.heap.size + 1 := by rw [hV]; simp
  have b : Below V.heap.size V (V.alloc (.cells (ints g).toArray 112)) := (Below.refl _ _).alloc (Nat.le_refl _) _
  have lt : w.heap.size < V.heap.size := by omega
  rw [← hV]
  refine ⟨(b.cell (p := ⟨w.heap.size, 0, none⟩) lt).trans ?_, (b.cell (p := ⟨w.heap.size, 1, none⟩) lt).trans ?_, (b.cell (p := ⟨w.heap.size, 2, none⟩) lt).trans ?_, fun o => (b.frozen (p := ⟨w.heap.size, o, none⟩) lt).trans ?_, ?_, by simp; omega⟩
  · rw [hV]; simp [go_sem]
  · rw [hV]; simp [go_sem]
  · rw [hV]; simp [go_sem]
  · rw [hV]; exact World.frozen?_alloc_at _ _ _ _ rfl
  · rw [← hz]; exact Cols.new _ _ _

/-- The first free cell, asked of the line's box in whatever later world. -/
theorem free_later {W : Nat} {H : Int} {f : List Int} {x r b : Nat} {y : Int} {g : List Int} {W1 : World} (hf : Fl W H f) (hW1 : 1 ≤ W) (hW : W ≤ 13) (hH : H ≤ 500) (hm : FM f x y) (hr : RM f H x y r) (hg : pad f = g) (hl : Cols W1 b g) (hb : b + 1 ≤ W1.heap.size) (u : Later W1.heap.size W1) :
    Calls Try.prog 140 #[.slice (some ⟨b, 0, none⟩) W 13, .int .i64 H] u.val fun e w' => e = .returned (.tuple #[.int .i64 x, .int .i64 y, .int .i64 r]) ∧ u.val = w' :=
  firstFree_any W H f x r y hf hW1 (by omega) hH hm hr b 13 u.val (Nat.lt_of_lt_of_le (by omega) u.ok.size) (fun j v hj => (u.ok.cell (p := ⟨b, j, none⟩) (by show b < _; omega)).trans (hl j v (by rw [← hg, pad_get (List.getElem?_eq_some_iff.1 hj).1]; exact hj)))

set_option maxRecDepth 100000 in
set_option maxHeartbeats 4000000 in
theorem fillOn_leaf (W : Nat) (H : Int) (l B : Nat) (J Jx : (Nat → Prop) → List CV → World → Prop) (hJ : AbX J) (hJx : AbX Jx) (hW1 : 1 ≤ W) (hW : W ≤ 13) (hH : H ≤ 500)
    (T : List (List Sq)) (Z : Nat) (hY : ∀ m X pre x W1, x.1 ∈ T → pre.length < Z → J X pre W1 → OkC B X x W1 → (∀ k, X k → B ≤ k ∧ k < W1.heap.size) → (∃ X', J X' pre W1 ∧ ∀ b, (Value.slice x.2.1 x.1.length x.2.2).ownBlock = some b → X' b) → YieldAt Fence.wide m Try.prog l (encC W H x) W1 fun e W' =>
      (e = .returned (.bool true) ∧ J X (pre ++ [x]) W' ∧ KeepX X W1 W') ∨ (e = .returned (.bool false) ∧ Jx X (pre ++ [x]) W' ∧ KeepX X W1 W'))
    (f : List Int) (x : Nat) (y : Int) (hf : Fl W H f) (hm : FM f x y) (hr : RM f H x y 0) (L : List Sq) (A : Option Addr) (n c : Nat) (X : Nat → Prop) (pre : List CV) (w : World) (hn : L.length = n) (hn36 : n ≤ 36) (hT : L ∈ T) (hZ : pre.length < Z)
    (ho : w.ownsRow B 77 3 (.slice A n c) n (flat L)) (hA : ∀ b, (Value.slice A n c).ownBlock = some b → X b) (hj : JB J B X pre w) :
    Calls Try.prog 106 #[.agg #[.int .i64 W, .int .i64 H, .slice A n c], arr (pad f), .func (.yield l) #[] #[]] w (FillPost J Jx B X pre L A n c [[]] w) := by
  obtain ⟨g0, g1, g2, g3, g4, g5, g6, g7, g8, g9, g10, g11, g12, hg⟩ := len13 (pad_len (f := f) (by have := hf.len; omega))
  have harr : arr (pad f) = .agg #[.int .i64 g0, .int .i64 g1, .int .i64 g2, .int .i64 g3, .int .i64 g4, .int .i64 g5, .int .i64 g6, .int .i64 g7, .int .i64 g8, .int .i64 g9, .int .i64 g10, .int .i64 g11, .int .i64 g12] := by rw [hg]; rfl
  obtain ⟨W1, hW1e⟩ : ∃ W1, W1 = (w.alloc (.cells #[.int .i64 W, .int .i64 H, .slice A n c] 50)).alloc (.cells #[.int .i64 g0, .int .i64 g1, .int .i64 g2, .int .i64 g3, .int .i64 g4, .int .i64 g5, .int .i64 g6, .int .i64 g7, .int .i64 g8, .int .i64 g9, .int .i64 g10, .int .i64 g11, .int .i64 g12] 112) := ⟨_, rfl⟩
  have K1 : FB w W H (.slice A n c) [g0, g1, g2, g3, g4, g5, g6, g7, g8, g9, g10, g11, g12] W1 := by rw [hW1e]; exact FB.start w W H _ [g0, g1, g2, g3, g4, g5, g6, g7, g8, g9, g10, g11, g12]
  have G1 : w.grownBy W1 none := by rw [hW1e]; exact (World.grownBy_alloc _ _ none).trans (World.grownBy_alloc _ _ none)
  have CF := free_later hf hW1 hW hH hm hr hg K1.l K1.sz
  have W13 : (W : Int) ≤ 13 := by omega
  have K1c0 := fun u : Later W1.heap.size W1 => (K1.below u.ok).c0
  have K1c1 := fun u : Later W1.heap.size W1 => (K1.below u.ok).c1
  rw [harr]
  have HY := Lib.hid hY
  subst hn
  have HK1 := Lib.hid K1
  have HG1 := Lib.hid G1
  clear hY hg harr K1 G1
  go_enter Try.func106, Try.ntmps106
  go_wp2_with fail
  rw [← hW1e]
  refine wp_region_sub W1.heap.size (by kernel_rfl) (by kernel_rfl) ?_
  repeat (first | go_big_quiet_step ((go_at_call 140; exact sub_same _ (CF _))) | quiet_step ((go_at_call 140; exact sub_same _ (CF _))))
  refine wpQuiet_nil ?_
  rintro w2 ⟨uu, hu⟩; have hb2 := uu.ok; rw [← hu] at hb2; clear hu uu
  have K1 := HK1.out
  have G1 := HG1.out
  clear K1c0 K1c1
  have K2 := K1.below hb2
  have G2 := G1.trans (grown_belowF hb2)
  clear CF hW1e K1 G1 hb2
  obtain ⟨c0, c1, c2, cf, _, sz⟩ := id K2
  have s2 := cf 2
  go_wp2_with fail
  have own2 := own_of_block ho (fun k hk => G2.block k (hj.x k (hA k hk)).2 (by simp))
  have j2 := hj.grow hJ G2 (fun r e => by cases e)
  refine (clone64_any A L.length c L w2 rfl (by omega) (fun e => by subst e; exact own_none own2) (sqs_of_own own2)).mono ?_
  rintro e w3 ⟨A', c', rfl, own3, hb3⟩
  have K3 := K2.below hb3
  have j3 := j2.grow hJ (grown_belowF hb3) (fun r e => by cases e)
  have own3b := own_of_block (C := w3) own2 (fun k hk => hb3.block k (j2.x k (.inl (hA k hk))).2)
  obtain ⟨w4, hw4⟩ : ∃ w4, w4 = w3.setCell ⟨w.heap.size, 2, none⟩ (.slice A' L.length c') := ⟨_, rfl⟩
  have hlow := own3.lt
  have hsw := K2.sz
  have hszz := hb3.size
  have K4 : FB w W H (.slice A' L.length c') [g0, g1, g2, g3, g4, g5, g6, g7, g8, g9, g10, g11, g12] w4 := by rw [hw4]; exact K3.put _
  have G4 : w3.grownBy w4 (some w.heap.size) := by rw [hw4]; exact grown_put w3 ⟨w.heap.size, 2, none⟩ _
  have j4z := j3.grow hJ G4 (fun r e => by cases e; exact .inl (.inr ⟨Nat.le_refl _, by omega⟩))
  have j4 := (j3.grow hJ G4 (fun r e => by cases e; exact .inl (.inr ⟨Nat.le_refl _, by omega⟩))).less hJ (X' := fun k => newX X w w2 k) (fun k hk => .inl (.inl hk))
  have kp : ∀ k, k < w.heap.size → w4.heap[k]? = w.heap[k]? := fun k hk => (G4.block k (by omega) (by simp; omega)).trans ((hb3.block k (by omega)).trans (G2.block k hk (by simp)))
  have own4 := own_of_block (C := w4) own3 (fun k hk => G4.block k (hlow k hk).2 (by have := hlow k hk; simp; omega))
  have hBw := hj.b
  obtain ⟨fn, tmps, assign, body, hy, hR⟩ := HY.out 2 _ pre (L, A', c') w4 hT hZ j4.j ⟨own_base own4 (by omega), fun b hb hx => by
    have h1 := hlow b hb
    rcases hx with hx | hx
    · have := hj.x b hx; omega
    · omega⟩ j4.x ⟨_, j4z.j, fun b hb => .inl (.inr (hlow b hb))⟩
  unfold encC at hy
  dsimp only at hy
  rw [hw4] at hy
  obtain ⟨c0, c1, c2, cf, _, sz⟩ := id K3
  have s2 := cf 2
  obtain ⟨d0, d1, d2, _, _, _⟩ := id K4
  go_upto_region 4 with (fail)
  refine (wpIn_wide (n := 3)).1 ?_
  gi_wp2
  rw [← hw4]
  refine hR.mono ?_
  clear hR
  rintro e w5 (⟨rfl, hJ5, hk5⟩ | ⟨rfl, hx5, hk5⟩)
  · have kb : ∀ k, X k → w5.heap[k]? = w.heap[k]? := fun k hk => (hk5.2 k (.inl hk)).trans (kp k (hj.x k hk).2)
    gi_wp2
    try go_wp2_with fail
    try go_simp
    go_ret
    refine .inl ⟨rfl, _, [(L, A', c')], fun k hk => .inl hk, by simp, ⟨hJ5, fun k hk => ?_, ?_⟩, ?_, fun k hk _ => kb k hk, own_of_block ho (fun k hk => kb k (hA k hk))⟩
    · have := j4.x k hk; have := hk5.1; omega
    · have := j4.b; have := hk5.1; omega
    · have := hk5.1; have := G4.size; have := hb3.size; have := G2.size; omega
  · gi_wp2
    try go_wp2_with fail
    try go_simp
    go_ret
    exact .inr ⟨rfl, _, [(L, A', c')], [], by simp, hx5, by have := hk5.1; have := G4.size; have := hb3.size; have := G2.size; omega, fun k hk _ => (hk5.2 k (.inl hk)).trans (kp k (hj.x k hk).2)⟩
end Go.Proofs.Ytchabjmdjpfkfaa
