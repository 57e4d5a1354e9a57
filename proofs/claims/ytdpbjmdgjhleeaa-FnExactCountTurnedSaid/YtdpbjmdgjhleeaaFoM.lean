/- Fo, Fp, Fn, Fs: texts in one. -/
import Derived.Test.YtdpbjmdgjhleeaaRfx
import Derived.Test.YtdpbjmdgjhleeaaFf
import Derived.Test.YtdpbjmdgjhleeaaCvd
import Derived.Test.YtdpbjmdgjhleeaaCutOfI
import Derived.Test.YtdpbjmdgjhleeaaLast
import Derived.Shelf.RegionOpen
import Derived.TacticsInMore
import Derived.LoopNIn
import Derived.LoopIn
import Derived.Deep.DeepCutAuto
import Derived.Test.YtdpbjmdgjhleeaaRfz
set_option linter.all false
namespace Go.Proofs.Ytdpbjmdgjhleeaa
open Go.RowKit Go.Shelf
attribute [local go_sem] Oper.semAt_some

/-- What the loop holds, and where the iterator's blocks lie. -/
structure JB (J : (Nat → Prop) → List CV → World → Prop) (B : Nat) (X : Nat → Prop) (s : List CV) (W : World) : Prop where
  j : J X s W
  x : ∀ k, X k → B ≤ k ∧ k < W.heap.size
  b : B ≤ W.heap.size
theorem JB.grow {J : (Nat → Prop) → List CV → World → Prop} {B : Nat} {X : Nat → Prop} {s : List CV} {A C : World} {row : Option Nat} (h : JB J B X s A) (hJ : AbX J) (hg : A.grownBy C row) (hr : ∀ r, row = some r → X r) : JB J B (newX X A C) s C :=
  ⟨hJ.grow _ _ _ _ _ h.j hg hr, fun k hk => by
    rcases hk with hk | hk
    · have := h.x k hk; have := hg.size; omega
    · have := h.b; omega, by have := h.b; have := hg.size; omega⟩
theorem JB.less {J : (Nat → Prop) → List CV → World → Prop} {B : Nat} {X X' : Nat → Prop} {s : List CV} {A : World} (h : JB J B X s A) (hJ : AbX J) (hx : ∀ k, X' k → X k) : JB J B X' s A := ⟨hJ.less _ _ _ _ h.j hx, fun k hk => h.x k (hx k hk), h.b⟩
theorem grown_belowF {A C : World} (h : Below A.heap.size A C) : A.grownBy C none := ⟨h.os, h.tape, h.output, h.size, fun k hk _ => h.block k hk⟩
theorem grown_put (A : World) (p : Addr) (v : Value) : A.grownBy (A.setCell p v) (some p.block) := put_grown A p v

/-- What comes of filling on. -/
def FillPost (J Jx : (Nat → Prop) → List CV → World → Prop) (B : Nat) (X : Nat → Prop) (pre : List CV) (L : List Sq) (A : Option Addr) (n c : Nat) (R : List (List Sq)) (W : World) (e : Ending) (W' : World) : Prop :=
  (e = .returned (.bool true) ∧ ∃ (X' : Nat → Prop) (ys : List CV), (∀ k, X k → X' k) ∧ ys.map (·.1) = R.map (L ++ ·) ∧ JB J B X' (pre ++ ys) W' ∧ W.heap.size ≤ W'.heap.size ∧
    (∀ k, X k → some k ≠ (Value.slice A n c).ownBlock → W'.heap[k]? = W.heap[k]?) ∧ W'.ownsRow B 85 3 (.slice A n c) n (flat L)) ∨
  (e = .returned (.bool false) ∧ ∃ (X' : Nat → Prop) (ys : List CV) (zs : List (List Sq)), ys.map (·.1) ++ zs = R.map (L ++ ·) ∧ Jx X' (pre ++ ys) W' ∧ W.heap.size ≤ W'.heap.size ∧ (∀ k, X k → some k ≠ (Value.slice A n c).ownBlock → W'.heap[k]? = W.heap[k]?))

theorem room_free {F : Fence} (h : F.depth = none) (k : Nat) : F.room k := fun d e => by rw [h] at e; cases e
theorem yield_any {F : Fence} (h : F.depth = none) {m : Nat} (m' : Nat) {P : Program} {l : Nat} {args : Array Value} {W : World} {R : Ending → World → Prop} (hy : YieldAt F m P l args W R) : YieldAt F m' P l args W R := by
  obtain ⟨fn, tmps, assign, body, h1, h2, h3⟩ := hy
  exact ⟨fn, tmps, assign, body, h1, h2, fun c cs _ => h3 c cs (room_free h _)⟩

set_option maxHeartbeats 1000000 in
theorem clone64_any (A : Option Addr) (n c : Nat) (L : List Sq) (w : World) (hl : L.length = n) (hn : n ≤ 64) (hA : A = none → n = 0 ∧ c = 0) (hL : SqsAt w w.heap.size A L) :
    Calls Try.prog 178 #[.slice A n c] w fun e w' => ∃ A' c', e = .returned (.slice A' n c') ∧ w'.ownsRow w.heap.size 85 3 (.slice A' n c') n (flat L) ∧ Below w.heap.size w w' := by
  have q : ∀ (w : World) (a : Option Addr) (n c n' c' : Nat), (binOp .eql 26 (.slice a n c) (.slice none n' c')).run Try.prog w = .ok (.bool a.isNone) w := fun w a n c n' c' => Lib.run_eql_slice_nil w _ _ a n c n' c' Try.underlying26
  have hsrc := src_sqs hl hL hA
  cases A with
  | none =>
    obtain ⟨rfl, rfl⟩ := hA rfl
    have : L = [] := List.eq_nil_of_length_eq_zero hl
    subst this
    go_enter Try.func178, Try.ntmps178
    go_wp2
    go_ret
    exact ⟨none, 0, rfl, World.ownsRow_nil _ _ _ _, Below.refl _ _⟩
  | some ad =>
    obtain ⟨i0, hi, hz0, hz1, hz2⟩ := info_parts infoSq
    have hsrc' : ∀ o, Src (w.alloc o) (some ad) n c (flat L) := by
      intro o
      rcases hsrc with ⟨h, _⟩ | ⟨ad', h, hc⟩
      · cases h
      · refine .inr ⟨ad', h, fun j u hu => ?_⟩
        have h1 := hc j u hu
        rw [World.cell?_alloc_lt w o _ (World.block_lt_of_cell? _ _ h1)]
        exact h1
    have hfl : (flat L).length = n * 3 := by rw [flat_len, hl]
    have HFL := Lib.hid hfl
    have hr1 : 0 + n ≤ maxLen := by unfold maxLen; omega
    clear hfl hsrc hL hl hA
    go_enter Try.func178, Try.ntmps178
    go_wp2_with (at_builtin; refine app_list rfl _ _ _ rfl w.heap.size 85 i0 (.agg #[.int .i64 0, .int .i64 0, .int .i64 0]) 3 24 Try.underlying26 hi hz0 hz1 hz2 rfl (by decide) (.slice (some ⟨w.heap.size, 0, none⟩) 0 0) 0 [] rfl (World.ownsRow_lit w #[] 0 (Nat.le_refl _) (Nat.zero_le _) rfl) (some ad) n c (flat L) rfl HFL.out (hsrc' _) (flat_one _) hr1 (by omega) (by simp) ?_; intro v' w1 hown hgr _; have hb : Below w.heap.size w w1 := ((Below.refl _ w).alloc (Nat.le_refl _) _).grown hgr (by simp) (fun kk hkk => by simp [Value.ownBlock] at hkk; omega))
    go_ret
    simp only [Nat.zero_add, List.nil_append] at hown
    obtain ⟨A', c', rfl⟩ := own_val hown
    exact ⟨A', c', rfl, hown, hb⟩

/-- The call's two boxes: the cut under way, and the line. -/
structure FB (w : World) (W H : Int) (v : Value) (g : List Int) (wr : World) : Prop where
  c0 : wr.cell? ⟨w.heap.size, 0, none⟩ = some (.int .i64 W)
  c1 : wr.cell? ⟨w.heap.size, 1, none⟩ = some (.int .i64 H)
  c2 : wr.cell? ⟨w.heap.size, 2, none⟩ = some v
  cf : ∀ o, wr.frozen? ⟨w.heap.size, o, none⟩ = false
  l : Cols wr (w.heap.size + 1) g
  sz : w.heap.size + 2 ≤ wr.heap.size
theorem FB.keep {w wr w' : World} {W H : Int} {v : Value} {g : List Int} (h : FB w W H v g wr) (hs : wr.heap.size ≤ w'.heap.size) (h1 : w'.heap[w.heap.size]? = wr.heap[w.heap.size]?) (h2 : w'.heap[w.heap.size + 1]? = wr.heap[w.heap.size + 1]?) : FB w W H v g w' :=
  ⟨(World.cell?_of_block (a := ⟨w.heap.size, 0, none⟩) h1).trans h.c0, (World.cell?_of_block (a := ⟨w.heap.size, 1, none⟩) h1).trans h.c1, (World.cell?_of_block (a := ⟨w.heap.size, 2, none⟩) h1).trans h.c2, fun o => (World.frozen?_of_block (a := ⟨w.heap.size, o, none⟩) h1).trans (h.cf o),
    fun j u hu => (World.cell?_of_block (a := ⟨w.heap.size + 1, j, none⟩) h2).trans (h.l j u hu), Nat.le_trans h.sz hs⟩
theorem FB.below {w wr w' : World} {W H : Int} {v : Value} {g : List Int} (h : FB w W H v g wr) (hb : Below wr.heap.size wr w') : FB w W H v g w' := h.keep hb.size (hb.block _ (by have := h.sz; omega)) (hb.block _ (by have := h.sz; omega))
theorem FB.put {w wr : World} {W H : Int} {v : Value} {g : List Int} (h : FB w W H v g wr) (u : Value) : FB w W H u g (wr.setCell ⟨w.heap.size, 2, none⟩ u) := by
  have ne : ∀ o, o ≠ 2 → (⟨w.heap.size, 2, none⟩ : Addr) ≠ ⟨w.heap.size, o, none⟩ := fun o ho e => ho (Addr.mk.inj e).2.1.symm
  exact ⟨(World.cell?_setCell_other _ _ _ _ (ne 0 (by decide))).trans h.c0, (World.cell?_setCell_other _ _ _ _ (ne 1 (by decide))).trans h.c1, World.cell?_setCell_same _ _ _ h.c2, fun o => by rw [World.frozen?_setCell]; exact h.cf o,
    fun j q hq => (World.cell?_setCell_other _ _ _ _ (fun e => by have := (Addr.mk.inj e).1; omega)).trans (h.l j q hq), by simpa [World.setCell] using h.sz⟩
theorem FB.start (w : World) (W H : Int) (v : Value) (g : List Int) : FB w W H v g ((w.alloc (.cells #[.int .i64 W, .int .i64 H, v] 28)).alloc (.cells (ints g).toArray 139)) := by
  obtain ⟨V, hV⟩ : ∃ V, V = w.alloc (.cells #[.int .i64 W, .int .i64 H, v] 28) := ⟨_, rfl⟩
  have hz : V.heap.size = w.heap.size + 1 := by rw [hV]; simp
  have b : Below V.heap.size V (V.alloc (.cells (ints g).toArray 139)) := (Below.refl _ _).alloc (Nat.le_refl _) _
  have lt : w.heap.size < V.heap.size := by omega
  rw [← hV]
  refine ⟨(b.cell (p := ⟨w.heap.size, 0, none⟩) lt).trans ?_, (b.cell (p := ⟨w.heap.size, 1, none⟩) lt).trans ?_, (b.cell (p := ⟨w.heap.size, 2, none⟩) lt).trans ?_, fun o => (b.frozen (p := ⟨w.heap.size, o, none⟩) lt).trans ?_, ?_, by simp; omega⟩
  · rw [hV]; simp [go_sem]
  · rw [hV]; simp [go_sem]
  · rw [hV]; simp [go_sem]
  · rw [hV]; exact World.frozen?_alloc_at _ _ _ _ rfl
  · rw [← hz]; exact Cols.new _ _ _

/-- The first free cell, asked of the line's box in whatever later world. -/
theorem free_later {W : Nat} {H : Int} {f : List Int} {x r b : Nat} {y : Int} {g : List Int} {W1 : World} (hf : Fl W H f) (hW1 : 1 ≤ W) (hW : W ≤ 13) (hH : H ≤ 500) (hm : FM f x y) (hr : RM f H x y r) (hg : pad f = g) (hl : Cols W1 b g) (hb : b + 1 ≤ W1.heap.size) (u : Later W1.heap.size W1) :
    Calls Try.prog 177 #[.slice (some ⟨b, 0, none⟩) W 13, .int .i64 H] u.val fun e w' => e = .returned (.tuple #[.int .i64 x, .int .i64 y, .int .i64 r]) ∧ u.val = w' :=
  firstFree_any W H f x r y hf hW1 (by omega) hH hm hr b 13 u.val (Nat.lt_of_lt_of_le (by omega) u.ok.size) (fun j v hj => (u.ok.cell (p := ⟨b, j, none⟩) (by show b < _; omega)).trans (hl j v (by rw [← hg, pad_get (List.getElem?_eq_some_iff.1 hj).1]; exact hj)))

set_option maxRecDepth 100000 in
set_option maxHeartbeats 4000000 in
theorem fillOn_leaf (W : Nat) (H : Int) (l B : Nat) (J Jx : (Nat → Prop) → List CV → World → Prop) (hJ : AbX J) (hJx : AbX Jx) (hW1 : 1 ≤ W) (hW : W ≤ 13) (hH : H ≤ 500)
    (T : List (List Sq)) (Z : Nat) (hY : ∀ m X pre x W1, x.1 ∈ T → pre.length < Z → J X pre W1 → OkC B X x W1 → (∀ k, X k → B ≤ k ∧ k < W1.heap.size) → (∃ X', J X' pre W1 ∧ ∀ b, (Value.slice x.2.1 x.1.length x.2.2).ownBlock = some b → X' b) → YieldAt Fence.wide m Try.prog l (encC W H x) W1 fun e W' =>
      (e = .returned (.bool true) ∧ J X (pre ++ [x]) W' ∧ KeepX X W1 W') ∨ (e = .returned (.bool false) ∧ Jx X (pre ++ [x]) W' ∧ KeepX X W1 W'))
    (f : List Int) (x : Nat) (y : Int) (hf : Fl W H f) (hm : FM f x y) (hr : RM f H x y 0) (L : List Sq) (A : Option Addr) (n c : Nat) (X : Nat → Prop) (pre : List CV) (w : World) (hn : L.length = n) (hn36 : n ≤ 36) (hT : L ∈ T) (hZ : pre.length < Z)
    (ho : w.ownsRow B 85 3 (.slice A n c) n (flat L)) (hA : ∀ b, (Value.slice A n c).ownBlock = some b → X b) (hj : JB J B X pre w) :
    Calls Try.prog 153 #[.agg #[.int .i64 W, .int .i64 H, .slice A n c], arr (pad f), .func (.yield l) #[] #[]] w (FillPost J Jx B X pre L A n c [[]] w) := by
  obtain ⟨g0, g1, g2, g3, g4, g5, g6, g7, g8, g9, g10, g11, g12, hg⟩ := len13 (pad_len (f := f) (by have := hf.len; omega))
  have harr : arr (pad f) = .agg #[.int .i64 g0, .int .i64 g1, .int .i64 g2, .int .i64 g3, .int .i64 g4, .int .i64 g5, .int .i64 g6, .int .i64 g7, .int .i64 g8, .int .i64 g9, .int .i64 g10, .int .i64 g11, .int .i64 g12] := by rw [hg]; rfl
  obtain ⟨W1, hW1e⟩ : ∃ W1, W1 = (w.alloc (.cells #[.int .i64 W, .int .i64 H, .slice A n c] 28)).alloc (.cells #[.int .i64 g0, .int .i64 g1, .int .i64 g2, .int .i64 g3, .int .i64 g4, .int .i64 g5, .int .i64 g6, .int .i64 g7, .int .i64 g8, .int .i64 g9, .int .i64 g10, .int .i64 g11, .int .i64 g12] 139) := ⟨_, rfl⟩
  have K1 : FB w W H (.slice A n c) [g0, g1, g2, g3, g4, g5, g6, g7, g8, g9, g10, g11, g12] W1 := by rw [hW1e]; exact FB.start w W H _ [g0, g1, g2, g3, g4, g5, g6, g7, g8, g9, g10, g11, g12]
  have G1 : w.grownBy W1 none := by rw [hW1e]; exact (World.grownBy_alloc _ _ none).trans (World.grownBy_alloc _ _ none)
  have CF := free_later hf hW1 hW hH hm hr hg K1.l K1.sz
  have W13 : (W : Int) ≤ 13 := by omega
  have K1c0 := fun u : Later W1.heap.size W1 => (K1.below u.ok).c0
  have K1c1 := fun u : Later W1.heap.size W1 => (K1.below u.ok).c1
  rw [harr]
  have HY := Lib.hid hY
  subst hn
  have HK1 := Lib.hid K1
  have HG1 := Lib.hid G1
  clear hY hg harr K1 G1
  go_enter Try.func153, Try.ntmps153
  go_wp2_with fail
  rw [← hW1e]
  refine wp_region_sub W1.heap.size (by kernel_rfl) (by kernel_rfl) ?_
  repeat (first | go_big_quiet_step ((go_at_call 177; exact sub_same _ (CF _))) | quiet_step ((go_at_call 177; exact sub_same _ (CF _))))
  refine wpQuiet_nil ?_
  rintro w2 ⟨uu, hu⟩; have hb2 := uu.ok; rw [← hu] at hb2; clear hu uu
  have K1 := HK1.out
  have G1 := HG1.out
  clear K1c0 K1c1
  have K2 := K1.below hb2
  have G2 := G1.trans (grown_belowF hb2)
  clear CF hW1e K1 G1 hb2
  obtain ⟨c0, c1, c2, cf, _, sz⟩ := id K2
  have s2 := cf 2
  go_wp2_with fail
  have own2 := own_of_block ho (fun k hk => G2.block k (hj.x k (hA k hk)).2 (by simp))
  have j2 := hj.grow hJ G2 (fun r e => by cases e)
  refine (clone64_any A L.length c L w2 rfl (by omega) (fun e => by subst e; exact own_none own2) (sqs_of_own own2)).mono ?_
  rintro e w3 ⟨A', c', rfl, own3, hb3⟩
  have K3 := K2.below hb3
  have j3 := j2.grow hJ (grown_belowF hb3) (fun r e => by cases e)
  have own3b := own_of_block (C := w3) own2 (fun k hk => hb3.block k (j2.x k (.inl (hA k hk))).2)
  obtain ⟨w4, hw4⟩ : ∃ w4, w4 = w3.setCell ⟨w.heap.size, 2, none⟩ (.slice A' L.length c') := ⟨_, rfl⟩
  have hlow := own3.lt
  have hsw := K2.sz
  have hszz := hb3.size
  have K4 : FB w W H (.slice A' L.length c') [g0, g1, g2, g3, g4, g5, g6, g7, g8, g9, g10, g11, g12] w4 := by rw [hw4]; exact K3.put _
  have G4 : w3.grownBy w4 (some w.heap.size) := by rw [hw4]; exact grown_put w3 ⟨w.heap.size, 2, none⟩ _
  have j4z := j3.grow hJ G4 (fun r e => by cases e; exact .inl (.inr ⟨Nat.le_refl _, by omega⟩))
  have j4 := (j3.grow hJ G4 (fun r e => by cases e; exact .inl (.inr ⟨Nat.le_refl _, by omega⟩))).less hJ (X' := fun k => newX X w w2 k) (fun k hk => .inl (.inl hk))
  have kp : ∀ k, k < w.heap.size → w4.heap[k]? = w.heap[k]? := fun k hk => (G4.block k (by omega) (by simp; omega)).trans ((hb3.block k (by omega)).trans (G2.block k hk (by simp)))
  have own4 := own_of_block (C := w4) own3 (fun k hk => G4.block k (hlow k hk).2 (by have := hlow k hk; simp; omega))
  have hBw := hj.b
  obtain ⟨fn, tmps, assign, body, hy, hR⟩ := HY.out 2 _ pre (L, A', c') w4 hT hZ j4.j ⟨own_base own4 (by omega), fun b hb hx => by
    have h1 := hlow b hb
    rcases hx with hx | hx
    · have := hj.x b hx; omega
    · omega⟩ j4.x ⟨_, j4z.j, fun b hb => .inl (.inr (hlow b hb))⟩
  unfold encC at hy
  dsimp only at hy
  rw [hw4] at hy
  obtain ⟨c0, c1, c2, cf, _, sz⟩ := id K3
  have s2 := cf 2
  obtain ⟨d0, d1, d2, _, _, _⟩ := id K4
  go_upto_region 4 with (fail)
  refine (wpIn_wide (n := 3)).1 ?_
  gi_wp2
  rw [← hw4]
  refine hR.mono ?_
  clear hR
  rintro e w5 (⟨rfl, hJ5, hk5⟩ | ⟨rfl, hx5, hk5⟩)
  · have kb : ∀ k, X k → w5.heap[k]? = w.heap[k]? := fun k hk => (hk5.2 k (.inl hk)).trans (kp k (hj.x k hk).2)
    gi_wp2
    try go_wp2_with fail
    try go_simp
    go_ret
    refine .inl ⟨rfl, _, [(L, A', c')], fun k hk => .inl hk, by simp, ⟨hJ5, fun k hk => ?_, ?_⟩, ?_, fun k hk _ => kb k hk, own_of_block ho (fun k hk => kb k (hA k hk))⟩
    · have := j4.x k hk; have := hk5.1; omega
    · have := j4.b; have := hk5.1; omega
    · have := hk5.1; have := G4.size; have := hb3.size; have := G2.size; omega
  · gi_wp2
    try go_wp2_with fail
    try go_simp
    go_ret
    exact .inr ⟨rfl, _, [(L, A', c')], [], by simp, hx5, by have := hk5.1; have := G4.size; have := hb3.size; have := G2.size; omega, fun k hk _ => (hk5.2 k (.inl hk)).trans (kp k (hj.x k hk).2)⟩
end Go.Proofs.Ytdpbjmdgjhleeaa
namespace Go.Proofs.Ytdpbjmdgjhleeaa
open Go.RowKit Go.Shelf

section
variable {P : Program}
theorem app_run2 {w : World} (base : Nat) (t ty e : TypeId) (i : TypeInfo) (z : Value) (size bytes : Nat) (ht : P.underlying t = some (.slice e)) (hi : P.info? e = some i) (hz : i.zero = some z)
    (hsize : i.size = size) (hby : i.bytes = bytes) (hzs : z.cells.size = size) (hsz : 0 < size) {A : Option Addr} {n k : Nat} {xs : List Value} (hown : w.ownsRow base e size (.slice A n k) n xs)
    {ad : Addr} {m c : Nat} {news : List Value} (hm : 0 < m) (hl : news.length = m * size) (hc : ∀ j u, news[j]? = some u → w.cell? (ad.add j) = some u) (h1 : ∀ u ∈ news, u.oneCell' = true) (h63 : n + m ≤ maxLen) (hbytes : (n + m) * bytes ≤ 140737488355328) (hbase : base ≤ w.heap.size) :
    ∃ A' k' w', (Builtin.append_ #[t, t] ty #[.slice A n k, .slice (some ad) m c]).run P w = .ok (.slice A' (n + m) k') w' ∧ w'.ownsRow base e size (.slice A' (n + m) k') (n + m) (xs ++ news) ∧
      ((A' = A ∧ k' = k ∧ w.grownBy w' (Value.slice A n k).ownBlock) ∨ ((Value.slice A' (n + m) k').ownBlock = some w.heap.size ∧ w.grownBy w' none)) := by
  obtain ⟨v', w', hrun, ho, hg, hq, hb⟩ := run_append_own_at (P := P) w base t ty e i z size bytes ht hi hz hsize hby hzs hsz _ n xs hown ad m c news hl hc h1 h63 hbytes hbase
  obtain ⟨A', k', rfl⟩ := own_val ho
  rcases hown.2 with ⟨hv, h0⟩ | ⟨g, cap, cur, hv, hbg, hg', hnc, hcm, hcs, htake⟩
  · cases hv
    refine ⟨A', k', w', hrun, ho, .inr ⟨?_, hg⟩⟩
    rcases hb with hb | hb
    · rcases ho.2 with ⟨hv, h0⟩ | ⟨g, cap, cur, hv, _⟩
      · omega
      · rw [hv] at hb; cases hb
    · exact hb
  · cases hv
    by_cases hroom : n + m ≤ k
    · obtain ⟨w2, hr2, ho2, hg2⟩ := run_append_fits (P := P) w base t ty e i size ht hi hsize g n k xs hown ad m c news hl hc h1 hroom
      exact ⟨_, _, w2, hr2, ho2, .inl ⟨rfl, rfl, hg2⟩⟩
    · subst hsize
      subst hby
      have hsmall : n + m ≤ 9223372036854775807 := by simp only [maxLen] at h63; omega
      have hr := run_append_grow (P := P) w t ty e i z ht hi hz ⟨g, 0, none⟩ n k xs hown.1 (hown.cells (g := g) rfl) ad m c news hl hc (by omega) (by omega) (growslice_fits (by omega) hbytes)
      rw [hrun] at hr
      injection hr with e1 e2
      refine ⟨A', k', w', hrun, ho, .inr ⟨?_, ?_⟩⟩
      · rw [e1]; rfl
      · rw [e2]; exact ⟨rfl, rfl, rfl, by simp, fun k hk _ => heap_alloc_old w.drew _ k hk⟩
theorem app_list2 {w : World} {ops : Array Oper} {rest : List Oper} {o : Oper} {a : Act} {Q : Exit → Act → World → Prop} (hgd : o.guard = none) (s x : Operand) (t : TypeId)
    (ho : o.op = .call { callee := .builtin .append, args := #[s, x], argTypes := #[t, t] })
    (base : Nat) (e : TypeId) (i : TypeInfo) (z : Value) (size bytes : Nat) (ht : P.underlying t = some (.slice e)) (hi : P.info? e = some i) (hz : i.zero = some z)
    (hsize : i.size = size) (hby : i.bytes = bytes) (hzs : z.cells.size = size) (hsz : 0 < size) (A : Option Addr) (n k : Nat) (xs : List Value) (hs : a.eval s = .slice A n k) (hown : w.ownsRow base e size (.slice A n k) n xs)
    (ad : Addr) (m c : Nat) (news : List Value) (hm : 0 < m) (hx : a.eval x = .slice (some ad) m c) (hl : news.length = m * size) (hc : ∀ j u, news[j]? = some u → w.cell? (ad.add j) = some u) (h1 : ∀ u ∈ news, u.oneCell' = true) (h63 : n + m ≤ maxLen) (hbytes : (n + m) * bytes ≤ 140737488355328) (hbase : base ≤ w.heap.size)
    (h : ∀ A' k' w', w'.ownsRow base e size (.slice A' (n + m) k') (n + m) (xs ++ news) → ((A' = A ∧ k' = k ∧ w.grownBy w' (Value.slice A n k).ownBlock) ∨ ((Value.slice A' (n + m) k').ownBlock = some w.heap.size ∧ w.grownBy w' none)) → wpList P ops Q rest (a.put o.dst (.slice A' (n + m) k')) w') : wpList P ops Q (o :: rest) a w := by
  refine wpList_plain hgd fun K hK => ?_
  obtain ⟨A', k', w', hrun, h2, h3⟩ := app_run2 (P := P) (w := w) base t o.type e i z size bytes ht hi hz hsize hby hzs hsz hown hm hl hc h1 h63 hbytes hbase
  unfold Oper.wp execOp
  simp only [ho, resolve, invoke, builtin, Sem.run_bind, Sem.run_pure, Result.andThen_ok, List.map_toArray, List.map_cons, List.map_nil, hs, hx]
  rw [hrun]
  exact hK _ _ (h A' k' w' h2 h3)
end

theorem ob_len {A : Option Addr} (n c m d : Nat) : (Value.slice A n c).ownBlock = (Value.slice A m d).ownBlock := by cases A <;> rfl
/-- The memory between two rounds of filling on. -/
structure FO (J : (Nat → Prop) → List CV → World → Prop) (B : Nat) (w : World) (X : Nat → Prop) (s : List CV) (L : List Sq) (A : Option Addr) (c : Nat) (W H : Int) (v : Value) (g : List Int) (Xr : Nat → Prop) (wr : World) : Prop where
  fb : FB w W H v g wr
  j : JB J B Xr s wr
  xx : ∀ k, X k → Xr k
  xn : Xr w.heap.size
  xm : Xr (w.heap.size + 1)
  own : wr.ownsRow B 85 3 (.slice A L.length c) L.length (flat L)
  kb : ∀ k, X k → some k ≠ (Value.slice A L.length c).ownBlock → wr.heap[k]? = w.heap[k]?
/-- What the append has done: it has gone on in the same block, or laid a new one. -/
def AppC (A : Option Addr) (n c : Nat) (A6 : Option Addr) (c6 : Nat) (wt w6 : World) : Prop :=
  (A6 = A ∧ c6 = c ∧ wt.grownBy w6 (Value.slice A n c).ownBlock) ∨ ((Value.slice A6 (n + 1) c6).ownBlock = some wt.heap.size ∧ wt.grownBy w6 none)
variable {J Jx : (Nat → Prop) → List CV → World → Prop} {B : Nat} {w wr wt w6 w8 W9 : World} {X Xr : Nat → Prop} {s : List CV} {L : List Sq} {A A6 : Option Addr} {c c6 : Nat} {W H : Int} {v : Value} {g : List Int} {q : Sq}
theorem AppC.block (hc : AppC A L.length c A6 c6 wt w6) {k : Nat} (hk : k < wt.heap.size) (hne : some k ≠ (Value.slice A L.length c).ownBlock) : w6.heap[k]? = wt.heap[k]? := by
  rcases hc with ⟨_, _, h⟩ | ⟨_, h⟩
  · exact h.block k hk hne
  · exact h.block k hk (by simp)
theorem AppC.size (hc : AppC A L.length c A6 c6 wt w6) : wt.heap.size ≤ w6.heap.size := by
  rcases hc with ⟨_, _, h⟩ | ⟨_, h⟩ <;> exact h.size
/-- The round's square has been appended and stored. -/
structure FP (J : (Nat → Prop) → List CV → World → Prop) (B : Nat) (w wr wt w6 : World) (s : List CV) (L : List Sq) (A : Option Addr) (c : Nat) (q : Sq) (A6 : Option Addr) (c6 : Nat) (W H : Int) (g : List Int) (Xr X7 : Nat → Prop) (w7 : World) : Prop where
  fb : FB w W H (.slice A6 (L.length + 1) c6) g w7
  j : JB J B X7 s w7
  xr : ∀ k, Xr k → X7 k
  own : w7.ownsRow B 85 3 (.slice A6 (L.length + 1) c6) (L.length + 1) (flat (L ++ [q]))
  xo : ∀ b, (Value.slice A6 (L.length + 1) c6).ownBlock = some b → X7 b ∧ b ≠ w.heap.size ∧ b ≠ w.heap.size + 1
  kr : ∀ k, Xr k → some k ≠ (Value.slice A L.length c).ownBlock → k ≠ w.heap.size → w7.heap[k]? = wr.heap[k]?
  kn : (Value.slice A6 (L.length + 1) c6).ownBlock = some wt.heap.size → ∀ k, Xr k → k ≠ w.heap.size → w7.heap[k]? = wr.heap[k]?
  kt : ∀ k, wr.heap.size ≤ k → k < wt.heap.size → w7.heap[k]? = wt.heap[k]?
  sz : wr.heap.size ≤ w7.heap.size
  xt : ∀ k, wr.heap.size ≤ k → k < wt.heap.size → X7 k ∧ some k ≠ (Value.slice A6 (L.length + 1) c6).ownBlock
theorem FO.push (h : FO J B w X s L A c W H v g Xr wr) (hJ : AbX J) (hA : ∀ b, (Value.slice A L.length c).ownBlock = some b → X b) (hX : ∀ k, X k → k < w.heap.size) (hb : Below wr.heap.size wr wt)
    (ho : w6.ownsRow B 85 3 (.slice A6 (L.length + 1) c6) (L.length + 1) (flat L ++ [.int .i64 q.x, .int .i64 q.y, .int .i64 q.d])) (hc : AppC A L.length c A6 c6 wt w6) :
    ∃ X7, FP J B w wr wt w6 s L A c q A6 c6 W H g Xr X7 (w6.setCell ⟨w.heap.size, 2, none⟩ (.slice A6 (L.length + 1) c6)) := by
  have hsz := h.fb.sz
  have hs1 := hb.size
  have hs2 := hc.size
  have hne : ∀ k, w.heap.size ≤ k → some k ≠ (Value.slice A L.length c).ownBlock := fun k hk e => by have := hX k (hA k e.symm); omega
  have jt := h.j.grow hJ (grown_belowF hb) (fun r e => by cases e)
  have j6 : ∃ X6, (∀ k, newX Xr wr wt k → X6 k) ∧ JB J B X6 s w6 ∧ (∀ b, (Value.slice A6 (L.length + 1) c6).ownBlock = some b → X6 b) := by
    rcases hc with ⟨rfl, rfl, hg⟩ | ⟨hv, hg⟩
    · exact ⟨_, fun k hk => .inl hk, jt.grow hJ hg (fun r e => .inl (h.xx r (hA r e))), fun b hb => .inl (.inl (h.xx b (hA b ((ob_len _ _ _ _).trans hb))))⟩
    · refine ⟨_, fun k hk => .inl hk, jt.grow hJ hg (fun r e => by cases e), fun b hb => .inr ?_⟩
      have := (ho.lt b hb).2
      rw [hv] at hb; cases hb
      exact ⟨Nat.le_refl _, this⟩
  obtain ⟨X6, x1, j6, x2⟩ := j6
  have f6 : FB w W H v g w6 := (h.fb.below hb).keep hs2 (hc.block (by omega) (hne _ (Nat.le_refl _))) (hc.block (by omega) (hne _ (by omega)))
  have g7 := grown_put w6 ⟨w.heap.size, 2, none⟩ (.slice A6 (L.length + 1) c6)
  have hob : ∀ b, (Value.slice A6 (L.length + 1) c6).ownBlock = some b → b ≠ w.heap.size ∧ b ≠ w.heap.size + 1 := fun b hb' => by
    rcases hc with ⟨rfl, rfl, hg⟩ | ⟨hv, hg⟩
    · have := hX b (hA b ((ob_len _ _ _ _).trans hb')); omega
    · rw [hv] at hb'; cases hb'; omega
  refine ⟨_, f6.put _, j6.grow hJ g7 (fun r e => by cases e; exact x1 _ (.inl h.xn)), fun k hk => .inl (x1 k (.inl hk)), ?_, fun b hb => ⟨.inl (x2 b hb), hob b hb⟩, fun k hk hk1 hk2 => ?_, fun hv k hk hk2 => ?_, fun k hk1 hk2 => ?_, ?_, fun k hk1 hk2 => ?_⟩
  · refine own_of_block (A := w6) ?_ (fun k hk => g7.block k (ho.lt k hk).2 (fun e => (hob k hk).1 (by cases e; rfl)))
    rw [flat_app]; exact ho
  · have := (h.j.x k hk).2
    exact (g7.block k (by omega) (fun e => hk2 (by cases e; rfl))).trans ((hc.block (by omega) hk1).trans (hb.block k this))
  · have := (h.j.x k hk).2
    refine (g7.block k (by omega) (fun e => hk2 (by cases e; rfl))).trans (Eq.trans ?_ (hb.block k this))
    rcases hc with ⟨rfl, rfl, hg⟩ | ⟨_, hg⟩
    · have := hX _ (hA _ ((ob_len _ _ _ _).trans hv)); omega
    · exact hg.block k (by omega) (by simp)
  · exact (g7.block k (by omega) (fun e => by injection e with e'; dsimp only at e'; omega)).trans (hc.block hk2 (hne k (by omega)))
  · have := g7.size; omega
  · refine ⟨.inl (x1 k (.inr ⟨hk1, hk2⟩)), fun e => ?_⟩
    rcases hc with ⟨rfl, rfl, hg⟩ | ⟨hv, hg⟩
    · have := hX k (hA k ((ob_len _ _ _ _).trans e.symm)); omega
    · rw [hv] at e; cases e; omega
theorem FO.kept {X7 X8 : Nat → Prop} {w7 : World} (h : FO J B w X s L A c W H v g Xr wr) (hA : ∀ b, (Value.slice A L.length c).ownBlock = some b → X b) (hX : ∀ k, X k → k < w.heap.size)
    (hc : AppC A L.length c A6 c6 wt w6) (hs : wr.heap.size ≤ wt.heap.size) (p : FP J B w wr wt w6 s L A c q A6 c6 W H g Xr X7 w7) (hb : Below w7.heap.size w7 w8) (h78 : ∀ k, X7 k → X8 k)
    (k9 : ∀ k, X8 k → some k ≠ (Value.slice A6 (L.length + 1) c6).ownBlock → W9.heap[k]? = w8.heap[k]?) : ∀ k, X k → some k ≠ (Value.slice A L.length c).ownBlock → W9.heap[k]? = w.heap[k]? := fun k hk h1 => by
  have hx := h.xx k hk
  have o6 : some k ≠ (Value.slice A6 (L.length + 1) c6).ownBlock := fun e => by
    rcases hc with ⟨rfl, rfl, _⟩ | ⟨hv, _⟩
    · exact h1 (e.trans (ob_len _ _ _ _))
    · rw [hv] at e; cases e; have := (h.j.x _ hx).2; omega
  exact ((k9 k (h78 k (p.xr k hx)) o6).trans ((hb.block k (p.j.x k (p.xr k hx)).2).trans (p.kr k hx h1 (fun e => by have := hX k hk; omega)))).trans (h.kb k hk h1)
theorem FO.back {X7 X8 X9 : Nat → Prop} {s9 : List CV} {w7 : World} (h : FO J B w X s L A c W H v g Xr wr) (hA : ∀ b, (Value.slice A L.length c).ownBlock = some b → X b) (hX : ∀ k, X k → k < w.heap.size)
    (hc : AppC A L.length c A6 c6 wt w6) (hs : wr.heap.size ≤ wt.heap.size) (p : FP J B w wr wt w6 s L A c q A6 c6 W H g Xr X7 w7) (hb : Below w7.heap.size w7 w8) (h78 : ∀ k, X7 k → X8 k) (h89 : ∀ k, X8 k → X9 k)
    (j9 : JB J B X9 s9 W9) (hs9 : w8.heap.size ≤ W9.heap.size) (k9 : ∀ k, X8 k → some k ≠ (Value.slice A6 (L.length + 1) c6).ownBlock → W9.heap[k]? = w8.heap[k]?)
    (ho : W9.ownsRow B 85 3 (.slice A6 (L.length + 1) c6) (L.length + 1) (flat (L ++ [q]))) :
    FO J B w X s9 L A c W H (.slice A6 (L.length + 1) c6) g X9 W9 := by
  have hsz := h.fb.sz
  have hs7 := p.fb.sz
  have up : ∀ k, Xr k → X9 k := fun k hk => h89 k (h78 k (p.xr k hk))
  have q8 : ∀ k, Xr k → k ≠ w.heap.size → some k ≠ (Value.slice A L.length c).ownBlock → some k ≠ (Value.slice A6 (L.length + 1) c6).ownBlock → W9.heap[k]? = wr.heap[k]? := fun k hk h1 h2 h3 =>
    (k9 k (h78 k (p.xr k hk)) h3).trans ((hb.block k (p.j.x k (p.xr k hk)).2).trans (p.kr k hk h2 h1))
  have o6 : ∀ k, Xr k → some k ≠ (Value.slice A L.length c).ownBlock → some k ≠ (Value.slice A6 (L.length + 1) c6).ownBlock := fun k hk h1 e => by
    rcases hc with ⟨rfl, rfl, _⟩ | ⟨hv, _⟩
    · exact h1 (e.trans (ob_len _ _ _ _))
    · rw [hv] at e; cases e; have := (h.j.x _ hk).2; omega
  refine ⟨(p.fb.below hb).keep hs9 (k9 _ (h78 _ (p.xr _ h.xn)) (fun e => (p.xo _ e.symm).2.1 rfl)) (k9 _ (h78 _ (p.xr _ h.xm)) (fun e => (p.xo _ e.symm).2.2 rfl)), j9, fun k hk => up k (h.xx k hk), up _ h.xn, up _ h.xm, ?_, fun k hk h1 => ?_⟩
  · rcases hc with ⟨rfl, rfl, _⟩ | ⟨hv, _⟩
    · rw [flat_app] at ho
      exact own_pop ho (by rw [flat_len])
    · refine own_of_block h.own (fun k hk => ?_)
      have hx := h.xx k (hA k hk)
      have hl := hX k (hA k hk)
      have hn : some k ≠ (Value.slice A6 (L.length + 1) c6).ownBlock := fun e => by rw [hv] at e; cases e; omega
      refine (k9 k (h78 k (p.xr k hx)) hn).trans ((hb.block k (p.j.x k (p.xr k hx)).2).trans ?_)
      exact p.kn hv k hx (by omega)
  · exact (q8 k (h.xx k hk) (fun e => by have := hX k hk; omega) h1 (o6 k (h.xx k hk) h1)).trans (h.kb k hk h1)
end Go.Proofs.Ytdpbjmdgjhleeaa
namespace Go.Proofs.Ytdpbjmdgjhleeaa
open Go.RowKit Go.Shelf

theorem new3F (w : World) (o : Obj) (a b c : Value) (t : TypeId) : ∀ j u, [a, b, c][j]? = some u → ((w.alloc o).alloc (.cells #[a, b, c] t)).cell? ((⟨w.heap.size + 1, 0, none⟩ : Addr).add j) = some u := by
  have h := new3 (w.alloc o) a b c t
  simpa using h
theorem split_range (r i : Nat) (hi : i < r) (g : Nat → List (List Sq)) : ∃ Z, (List.range r).flatMap g = (List.range i).flatMap g ++ g i ++ Z := by
  obtain ⟨d, rfl⟩ : ∃ d, r = i + 1 + d := ⟨r - (i + 1), by omega⟩
  induction d with
  | zero => exact ⟨[], by rw [Nat.add_zero, flatMap_range_succ, List.append_nil]⟩
  | succ d ih =>
    obtain ⟨Z, hZ⟩ := ih (by omega)
    exact ⟨Z ++ g (i + 1 + d), by rw [show i + 1 + (d + 1) = (i + 1 + d) + 1 by omega, flatMap_range_succ, hZ]; simp [List.append_assoc]⟩
theorem step_map (L : List Sq) (x : Nat) (y : Int) (H : Int) (k : Nat) (f : List Int) (i : Nat) : (stepF 6 H k f x y (fills 6 H) i).map (L ++ ·) = (fills 6 H k (liftF f x (i + 1) ((i + 1 : Nat) : Int))).map ((L ++ [⟨(x : Nat), y, ((i + 1 : Nat) : Int)⟩]) ++ ·) := by
  unfold stepF
  rw [List.map_map]
  refine List.map_congr_left fun M _ => ?_
  simp

theorem flat_range_le {α : Type} (g : Nat → List α) {i n : Nat} (h : i ≤ n) : ((List.range i).flatMap g).length ≤ ((List.range n).flatMap g).length := by
  induction n with
  | zero => obtain rfl : i = 0 := by omega
            exact Nat.le_refl _
  | succ n ih =>
    by_cases e : i = n + 1
    · subst e; exact Nat.le_refl _
    · rw [flatMap_range_succ, List.length_append]
      have := ih (by omega)
      omega
set_option maxRecDepth 100000 in
set_option maxHeartbeats 8000000 in
theorem fillOn_node (W : Nat) (H : Int) (l B : Nat) (J Jx : (Nat → Prop) → List CV → World → Prop) (hJ : AbX J) (hJx : AbX Jx) (hW1 : 1 ≤ W) (hW : W ≤ 13) (hH : H ≤ 6) (T : List (List Sq)) (Z : Nat)
    (k : Nat)
    (IH : ∀ (f' : List Int) (L' : List Sq) (A' : Option Addr) (c' : Nat) (X' : Nat → Prop) (pre' : List CV) (w' : World), Fl W H f' → free W H f' ≤ k → L'.length + free W H f' ≤ 36 → (∀ M ∈ fills 6 H k f', L' ++ M ∈ T) → pre'.length + (fills 6 H k f').length ≤ Z → w'.ownsRow B 85 3 (.slice A' L'.length c') L'.length (flat L') →
      (∀ b, (Value.slice A' L'.length c').ownBlock = some b → X' b) → JB J B X' pre' w' → Calls Try.prog 153 #[.agg #[.int .i64 W, .int .i64 H, .slice A' L'.length c'], arr (pad f'), .func (.yield l) #[] #[]] w' (FillPost J Jx B X' pre' L' A' L'.length c' (fills 6 H k f') w'))
    (f : List Int) (x r : Nat) (y : Int) (hf : Fl W H f) (hfr : free W H f ≤ k + 1) (hm : FM f x y) (hr : RM f H x y r) (hr0 : r ≠ 0) (L : List Sq) (A : Option Addr) (c : Nat) (X : Nat → Prop) (pre : List CV) (w : World) (hn36 : L.length + free W H f ≤ 36) (hT : ∀ M ∈ fills 6 H (k + 1) f, L ++ M ∈ T) (hZ : pre.length + (fills 6 H (k + 1) f).length ≤ Z)
    (ho : w.ownsRow B 85 3 (.slice A L.length c) L.length (flat L)) (hA : ∀ b, (Value.slice A L.length c).ownBlock = some b → X b) (hj : JB J B X pre w) :
    Calls Try.prog 153 #[.agg #[.int .i64 W, .int .i64 H, .slice A L.length c], arr (pad f), .func (.yield l) #[] #[]] w (FillPost J Jx B X pre L A L.length c (fills 6 H (k + 1) f) w) := by
  have hflen := hf.len
  have hy0 := hf.lo x y hm.1
  have hrw := hr.w
  have hrh := hr.h
  have hyH := hf.hi x y hm.1
  have hfi : fills 6 H (k + 1) f = (List.range r).flatMap (stepF 6 H k f x y (fills 6 H)) := by
    rw [fills_node hm hr hr0]; congr 2; omega
  have HFI := Lib.hid hfi
  have HT : Hid (∀ i, i < r → ∀ M ∈ fills 6 H k (liftF f x (i + 1) ((i + 1 : Nat) : Int)), (L ++ [(⟨(x : Nat), y, ((i + 1 : Nat) : Int)⟩ : Sq)]) ++ M ∈ T) := Lib.hid (fun i hi M hM => by
    have := hT (⟨(x : Nat), y, ((i + 1 : Nat) : Int)⟩ :: M) (by rw [hfi]; exact List.mem_flatMap.2 ⟨i, List.mem_range.2 hi, List.mem_map.2 ⟨M, hM, rfl⟩⟩)
    simpa using this)
  have HZ : Hid (∀ i, i < r → pre.length + ((List.range i).flatMap (stepF 6 H k f x y (fills 6 H))).length + (fills 6 H k (liftF f x (i + 1) ((i + 1 : Nat) : Int))).length ≤ Z) := Lib.hid (fun i hi => by
    have h1 := flat_range_le (stepF 6 H k f x y (fills 6 H)) (show i + 1 ≤ r by omega)
    rw [flatMap_range_succ, List.length_append] at h1
    have h2 : (stepF 6 H k f x y (fills 6 H) i).length = (fills 6 H k (liftF f x (i + 1) ((i + 1 : Nat) : Int))).length := by simp [stepF]
    rw [hfi] at hZ
    omega)
  clear hfi hT hZ
  have hpl := pad_len (f := f) (by omega)
  obtain ⟨g0, g1, g2, g3, g4, g5, g6, g7, g8, g9, g10, g11, g12, hg⟩ := len13 hpl
  have harr : arr (pad f) = .agg #[.int .i64 g0, .int .i64 g1, .int .i64 g2, .int .i64 g3, .int .i64 g4, .int .i64 g5, .int .i64 g6, .int .i64 g7, .int .i64 g8, .int .i64 g9, .int .i64 g10, .int .i64 g11, .int .i64 g12] := by rw [hg]; rfl
  have hbd : ∀ (i : Nat) u, (pad f)[i]? = some u → 0 ≤ u ∧ u ≤ 500 := by
    intro i u hu
    unfold pad at hu
    rw [List.getElem?_append] at hu
    split at hu
    · have := hf.lo i u hu; have := hf.hi i u hu; omega
    · rw [List.getElem?_replicate] at hu
      split at hu <;> cases hu; omega
  have HR : ∀ (s : Nat), s ≤ r → ∀ w', Calls Try.prog 179 #[.agg #[.int .i64 g0, .int .i64 g1, .int .i64 g2, .int .i64 g3, .int .i64 g4, .int .i64 g5, .int .i64 g6, .int .i64 g7, .int .i64 g8, .int .i64 g9, .int .i64 g10, .int .i64 g11, .int .i64 g12], .agg #[.int .i64 x, .int .i64 y, .int .i64 s]] w' fun e w'' => e = .returned (arr (pad (liftF f x s s))) ∧ Below w'.heap.size w' w'' := by
    intro s hs w'
    have := raised_any (pad f) x s y hpl (by omega) hbd w'
    rwa [harr, pad_lift (by omega)] at this
  obtain ⟨W1, hW1e⟩ : ∃ W1, W1 = (w.alloc (.cells #[.int .i64 W, .int .i64 H, .slice A L.length c] 28)).alloc (.cells #[.int .i64 g0, .int .i64 g1, .int .i64 g2, .int .i64 g3, .int .i64 g4, .int .i64 g5, .int .i64 g6, .int .i64 g7, .int .i64 g8, .int .i64 g9, .int .i64 g10, .int .i64 g11, .int .i64 g12] 139) := ⟨_, rfl⟩
  have K1 : FB w W H (.slice A L.length c) [g0, g1, g2, g3, g4, g5, g6, g7, g8, g9, g10, g11, g12] W1 := by rw [hW1e]; exact FB.start w W H _ [g0, g1, g2, g3, g4, g5, g6, g7, g8, g9, g10, g11, g12]
  have G1 : w.grownBy W1 none := by rw [hW1e]; exact (World.grownBy_alloc _ _ none).trans (World.grownBy_alloc _ _ none)
  have CF := free_later hf hW1 hW (by omega) hm hr hg K1.l K1.sz
  have W13 : (W : Int) ≤ 13 := by omega
  have K1c0 := fun u : Later W1.heap.size W1 => (K1.below u.ok).c0
  have K1c1 := fun u : Later W1.heap.size W1 => (K1.below u.ok).c1
  rw [harr]
  have HIH := Lib.hid IH
  have HHR := Lib.hid HR
  have HF := Lib.hid hf
  have HM := Lib.hid hm
  have HRM := Lib.hid hr
  have hX : ∀ k, X k → k < w.heap.size := fun k hk => (hj.x k hk).2
  have hBw := hj.b
  have HK1 := Lib.hid K1
  have HG1 := Lib.hid G1
  clear IH HR hg harr hbd hpl hf hm hr K1 G1
  go_enter Try.func153, Try.ntmps153
  go_wp2_with fail
  rw [← hW1e]
  refine wp_region_sub W1.heap.size (by kernel_rfl) (by kernel_rfl) ?_
  repeat (first | go_big_quiet_step ((go_at_call 177; exact sub_same _ (CF _))) | quiet_step ((go_at_call 177; exact sub_same _ (CF _))))
  refine wpQuiet_nil ?_
  rintro w2 ⟨uu, hu⟩; have hb2 := uu.ok; rw [← hu] at hb2; clear hu uu
  have K1 := HK1.out
  have G1 := HG1.out
  clear K1c0 K1c1
  have K2 := K1.below hb2
  have G2 := G1.trans (grown_belowF hb2)
  have sz2 := K2.sz
  have O2 : FO J B w X (pre ++ []) L A c W H (.slice A L.length c) [g0, g1, g2, g3, g4, g5, g6, g7, g8, g9, g10, g11, g12] (newX X w w2) w2 := ⟨K2, by rw [List.append_nil]; exact hj.grow hJ G2 (fun r e => by cases e), fun k hk => .inl hk, .inr ⟨Nat.le_refl _, by omega⟩, .inr ⟨by omega, by omega⟩,
    own_of_block ho (fun k hk => G2.block k (hX k (hA k hk)) (by simp)), fun k hk _ => G2.block k (hX k hk) (by simp)⟩
  clear CF hW1e K1 G1 hb2 ho G2
  obtain ⟨c0, c1, c2, cf, _, _⟩ := id K2
  have r0 : ((r : Int) == 0) = false := by rw [beq_eq_false_iff_ne]; omega
  have HO2 := Lib.hid O2
  clear K2 O2
  go_wp2_with fail
  clear c0 c1 c2 cf r0
  go_loopw [11] (fun v wr => ∃ (i : Nat) (Xr : Nat → Prop) (ys : List CV) (sl : Value), i ≤ r ∧ v = .int .i64 ((i + 1 : Nat) : Int) ∧ ys.map (·.1) = ((List.range i).flatMap (stepF 6 H k f x y (fills 6 H))).map (L ++ ·) ∧ w2.heap.size ≤ wr.heap.size ∧ FO J B w X (pre ++ ys) L A c W H sl [g0, g1, g2, g3, g4, g5, g6, g7, g8, g9, g10, g11, g12] Xr wr) (fun v _ => r + 1 - (intOf v).toNat)
  case atStart => exact ⟨0, _, [], _, by omega, rfl, rfl, Nat.le_refl _, HO2.out⟩
  case round =>
    obtain ⟨i, Xr, ys, sl, hi, rfl, hys, hsz, hO⟩ := hrel
    have HYS := Lib.hid hys
    clear hys
    by_cases hir : i < r
    · have i1 : ((i + 1 : Nat) : Int) ≤ (r : Int) := by omega
      obtain ⟨i0, hinf, hz0, hz1, hz2⟩ := info_parts infoSq
      obtain ⟨c0, c1, c2, cf, hl, sz⟩ := id hO.fb
      have cf2 := cf 2
      have hO2 := hO.own
      have hfn := free_next HF.out HM.out HRM.out (s := i + 1) (by omega)
      have h11 : 1 ≤ (i + 1) * (i + 1) := Nat.mul_pos (by omega) (by omega)
      have hn1 : L.length + 1 ≤ maxLen := by unfold maxLen; omega
      have hn2 : (L.length + 1) * 24 ≤ 140737488355328 := by omega
      have hBr := hO.j.b
      have HFN := Lib.hid hfn
      obtain ⟨wt, hwt⟩ : ∃ wt, wt = (wr.alloc (.cells #[.int .i64 x, .int .i64 y, .int .i64 ((i : Int) + 1)] 85)).alloc (.cells #[.int .i64 x, .int .i64 y, .int .i64 ((i : Int) + 1)] 85) := ⟨_, rfl⟩
      have hbt : Below wr.heap.size wr wt := by rw [hwt]; exact ((Below.refl _ _).alloc (Nat.le_refl _) _).alloc (by simp) _
      have hzt : wt.heap.size = wr.heap.size + 2 := by rw [hwt]; simp
      have tc : wt.cell? ⟨wr.heap.size, 0, none⟩ = some (.int .i64 x) ∧ wt.cell? ⟨wr.heap.size, 1, none⟩ = some (.int .i64 y) ∧ wt.cell? ⟨wr.heap.size, 2, none⟩ = some (.int .i64 ((i : Int) + 1)) := by
        rw [hwt]
        refine ⟨?_, ?_, ?_⟩ <;> (rw [World.cell?_alloc_lt _ _ _ (by simp)]; simp [go_sem])
      have hneN : some w.heap.size ≠ (Value.slice A L.length c).ownBlock := fun e => by have := hX _ (hA _ e.symm); omega
      clear hl cf hfn
      go_wp2_with (at_builtin; refine app_list2 rfl _ _ _ rfl B 85 i0 (.agg #[.int .i64 0, .int .i64 0, .int .i64 0]) 3 24 Try.underlying26 hinf hz0 hz1 hz2 rfl (by decide) A L.length c _ rfl ((hO2.alloc _).alloc _) ⟨wr.heap.size + 1, 0, none⟩ 1 1 [.int .i64 x, .int .i64 y, .int .i64 ((i : Int) + 1)] (by decide) rfl rfl (new3F _ _ _ _ _ _) (one3 _ _ _) hn1 hn2 (by simp; omega) ?_; intro A6 c6 w6 hown6 hc6; rw [← hwt] at hc6; have hk6 := (AppC.block (L := L) hc6 (k := w.heap.size) (by omega) hneN).trans (hbt.block w.heap.size (by omega)); have s2 := (World.cell?_of_block (a := ⟨w.heap.size, 2, none⟩) hk6).trans c2; have t2 := (World.frozen?_of_block (a := ⟨w.heap.size, 2, none⟩) hk6).trans cf2; clear hk6)
      have hAC : AppC A L.length c A6 c6 wt w6 := hc6
      obtain ⟨X7, hp⟩ := hO.push (q := (⟨(x : Nat), y, ((i + 1 : Nat) : Int)⟩ : Sq)) hJ hA hX hbt hown6 hAC
      obtain ⟨w7, hw7⟩ : ∃ w7, w7 = w6.setCell ⟨w.heap.size, 2, none⟩ (.slice A6 (L.length + 1) c6) := ⟨_, rfl⟩
      rw [← hw7] at hp ⊢
      have kM := hp.kt wr.heap.size (Nat.le_refl _) (by omega)
      obtain ⟨tc0, tc1, tc2⟩ := tc
      have m0 := (World.cell?_of_block (a := ⟨wr.heap.size, 0, none⟩) kM).trans tc0
      have m1 := (World.cell?_of_block (a := ⟨wr.heap.size, 1, none⟩) kM).trans tc1
      have m2 := (World.cell?_of_block (a := ⟨wr.heap.size, 2, none⟩) kM).trans tc2
      have hM7 : wr.heap.size < w7.heap.size := World.block_lt_of_cell? _ _ m0
      have fb7 := hp.fb
      have HS : ∀ w', Below w7.heap.size w7 w' → w'.cell? ⟨w.heap.size, 0, none⟩ = some (.int .i64 W) ∧ w'.cell? ⟨w.heap.size, 1, none⟩ = some (.int .i64 H) ∧ w'.cell? ⟨w.heap.size, 2, none⟩ = some (.slice A6 (L.length + 1) c6) ∧ w'.cell? ⟨w.heap.size + 1, 0, none⟩ = some (.int .i64 g0) ∧ w'.cell? ⟨w.heap.size + 1, 1, none⟩ = some (.int .i64 g1) ∧ w'.cell? ⟨w.heap.size + 1, 2, none⟩ = some (.int .i64 g2) ∧ w'.cell? ⟨w.heap.size + 1, 3, none⟩ = some (.int .i64 g3) ∧ w'.cell? ⟨w.heap.size + 1, 4, none⟩ = some (.int .i64 g4) ∧ w'.cell? ⟨w.heap.size + 1, 5, none⟩ = some (.int .i64 g5) ∧ w'.cell? ⟨w.heap.size + 1, 6, none⟩ = some (.int .i64 g6) ∧ w'.cell? ⟨w.heap.size + 1, 7, none⟩ = some (.int .i64 g7) ∧ w'.cell? ⟨w.heap.size + 1, 8, none⟩ = some (.int .i64 g8) ∧ w'.cell? ⟨w.heap.size + 1, 9, none⟩ = some (.int .i64 g9) ∧ w'.cell? ⟨w.heap.size + 1, 10, none⟩ = some (.int .i64 g10) ∧ w'.cell? ⟨w.heap.size + 1, 11, none⟩ = some (.int .i64 g11) ∧ w'.cell? ⟨w.heap.size + 1, 12, none⟩ = some (.int .i64 g12) ∧ w'.cell? ⟨wr.heap.size, 0, none⟩ = some (.int .i64 x) ∧ w'.cell? ⟨wr.heap.size, 1, none⟩ = some (.int .i64 y) ∧ w'.cell? ⟨wr.heap.size, 2, none⟩ = some (.int .i64 ((i : Int) + 1)) := fun w' hb => by
        have K := hp.fb.below hb
        have hl := K.l
        exact ⟨K.c0, K.c1, K.c2, hl 0 _ rfl, hl 1 _ rfl, hl 2 _ rfl, hl 3 _ rfl, hl 4 _ rfl, hl 5 _ rfl, hl 6 _ rfl, hl 7 _ rfl, hl 8 _ rfl, hl 9 _ rfl, hl 10 _ rfl, hl 11 _ rfl, hl 12 _ rfl, (hb.cell (p := ⟨wr.heap.size, 0, none⟩) hM7).trans m0, (hb.cell (p := ⟨wr.heap.size, 1, none⟩) hM7).trans m1, (hb.cell (p := ⟨wr.heap.size, 2, none⟩) hM7).trans m2⟩
      have HS9 : ∀ (w8 W9 : World), Below w7.heap.size w7 w8 → w8.heap.size ≤ W9.heap.size → (∀ k, newX X7 w7 w8 k → some k ≠ (Value.slice A6 (L.length + 1) c6).ownBlock → W9.heap[k]? = w8.heap[k]?) → W9.cell? ⟨w.heap.size, 0, none⟩ = some (.int .i64 W) ∧ W9.cell? ⟨w.heap.size, 1, none⟩ = some (.int .i64 H) ∧ W9.cell? ⟨w.heap.size, 2, none⟩ = some (.slice A6 (L.length + 1) c6) ∧ W9.cell? ⟨w.heap.size + 1, 0, none⟩ = some (.int .i64 g0) ∧ W9.cell? ⟨w.heap.size + 1, 1, none⟩ = some (.int .i64 g1) ∧ W9.cell? ⟨w.heap.size + 1, 2, none⟩ = some (.int .i64 g2) ∧ W9.cell? ⟨w.heap.size + 1, 3, none⟩ = some (.int .i64 g3) ∧ W9.cell? ⟨w.heap.size + 1, 4, none⟩ = some (.int .i64 g4) ∧ W9.cell? ⟨w.heap.size + 1, 5, none⟩ = some (.int .i64 g5) ∧ W9.cell? ⟨w.heap.size + 1, 6, none⟩ = some (.int .i64 g6) ∧ W9.cell? ⟨w.heap.size + 1, 7, none⟩ = some (.int .i64 g7) ∧ W9.cell? ⟨w.heap.size + 1, 8, none⟩ = some (.int .i64 g8) ∧ W9.cell? ⟨w.heap.size + 1, 9, none⟩ = some (.int .i64 g9) ∧ W9.cell? ⟨w.heap.size + 1, 10, none⟩ = some (.int .i64 g10) ∧ W9.cell? ⟨w.heap.size + 1, 11, none⟩ = some (.int .i64 g11) ∧ W9.cell? ⟨w.heap.size + 1, 12, none⟩ = some (.int .i64 g12) ∧ W9.cell? ⟨wr.heap.size, 0, none⟩ = some (.int .i64 x) ∧ W9.cell? ⟨wr.heap.size, 1, none⟩ = some (.int .i64 y) ∧ W9.cell? ⟨wr.heap.size, 2, none⟩ = some (.int .i64 ((i : Int) + 1)) := fun w8 W9 hb hs9 hk9 => by
        have K := (hp.fb.below hb).keep hs9 (hk9 _ (.inl (hp.xr _ hO.xn)) (fun e => (hp.xo _ e.symm).2.1 rfl)) (hk9 _ (.inl (hp.xr _ hO.xm)) (fun e => (hp.xo _ e.symm).2.2 rfl))
        have hl := K.l
        have xt := hp.xt wr.heap.size (Nat.le_refl _) (by omega)
        have kq := (hk9 wr.heap.size (.inl xt.1) xt.2).trans (hb.block wr.heap.size hM7)
        exact ⟨K.c0, K.c1, K.c2, hl 0 _ rfl, hl 1 _ rfl, hl 2 _ rfl, hl 3 _ rfl, hl 4 _ rfl, hl 5 _ rfl, hl 6 _ rfl, hl 7 _ rfl, hl 8 _ rfl, hl 9 _ rfl, hl 10 _ rfl, hl 11 _ rfl, hl 12 _ rfl, (World.cell?_of_block (a := ⟨wr.heap.size, 0, none⟩) kq).trans m0, (World.cell?_of_block (a := ⟨wr.heap.size, 1, none⟩) kq).trans m1, (World.cell?_of_block (a := ⟨wr.heap.size, 2, none⟩) kq).trans m2⟩
      have CR : ∀ w', Calls Try.prog 179 #[.agg #[.int .i64 g0, .int .i64 g1, .int .i64 g2, .int .i64 g3, .int .i64 g4, .int .i64 g5, .int .i64 g6, .int .i64 g7, .int .i64 g8, .int .i64 g9, .int .i64 g10, .int .i64 g11, .int .i64 g12], .agg #[.int .i64 x, .int .i64 y, .int .i64 ((i : Int) + 1)]] w' fun e w'' => e = .returned (arr (pad (liftF f x (i + 1) ((i + 1 : Nat) : Int)))) ∧ Below w'.heap.size w' w'' := fun w' => HHR.out (i + 1) (by omega) w'
      have hfl7 := (HF.out.next HM.out HRM.out (s := i + 1) (by omega)).1
      have hpo : w7.ownsRow B 85 3 (.slice A6 (L ++ [(⟨(x : Nat), y, ((i + 1 : Nat) : Int)⟩ : Sq)]).length c6) (L ++ [(⟨(x : Nat), y, ((i + 1 : Nat) : Int)⟩ : Sq)]).length (flat (L ++ [(⟨(x : Nat), y, ((i + 1 : Nat) : Int)⟩ : Sq)])) := by
        rw [List.length_append]; exact hp.own
      have CI : ∀ w8, (hb : Below w7.heap.size w7 w8) → Calls Try.prog 153 #[.agg #[.int .i64 W, .int .i64 H, .slice A6 (L.length + 1) c6], arr (pad (liftF f x (i + 1) ((i : Int) + 1))), .func (.yield l) #[] #[]] w8 (FillPost J Jx B (newX X7 w7 w8) (pre ++ ys) (L ++ [(⟨(x : Nat), y, ((i + 1 : Nat) : Int)⟩ : Sq)]) A6 (L.length + 1) c6 (fills 6 H k (liftF f x (i + 1) ((i + 1 : Nat) : Int))) w8) := by
        intro w8 hb
        have := HIH.out (liftF f x (i + 1) ((i + 1 : Nat) : Int)) (L ++ [(⟨(x : Nat), y, ((i + 1 : Nat) : Int)⟩ : Sq)]) A6 c6 (newX X7 w7 w8) (pre ++ ys) w8 hfl7 (by have := HFN.out; omega) (by rw [List.length_append]; have := HFN.out; simp only [List.length_cons, List.length_nil]; omega) (HT.out i hir) (by have h1 := HZ.out i hir; have h2 := congrArg List.length HYS.out; simp only [List.length_map] at h2; rw [List.length_append, h2]; omega) (own_of_block hpo (fun b hb' => hb.block b (hp.j.x b (hp.xo b ((ob_len _ _ _ _).trans hb')).1).2)) (fun b hb' => .inl (hp.xo b ((ob_len _ _ _ _).trans hb')).1) (hp.j.grow hJ (grown_belowF hb) (fun r e => by cases e))
        rw [List.length_append] at this
        exact this
      have HCI := Lib.hid CI
      have HP := Lib.hid hp
      have HO := Lib.hid hO
      have HAC := Lib.hid hAC
      have HBT := Lib.hid hbt
      clear CI hp hO hAC hbt hc6 hown6 hw7 hwt tc0 tc1 tc2 kM c0 c1 c2 cf2 s2 t2 hO2 hfl7 hpo hzt fb7
      refine wp_region_top 7 (fun w' => w'.cell? ⟨w.heap.size, 0, none⟩ = some (.int .i64 W) ∧ w'.cell? ⟨w.heap.size, 1, none⟩ = some (.int .i64 H) ∧ w'.cell? ⟨w.heap.size, 2, none⟩ = some (.slice A6 (L.length + 1) c6) ∧ w'.cell? ⟨w.heap.size + 1, 0, none⟩ = some (.int .i64 g0) ∧ w'.cell? ⟨w.heap.size + 1, 1, none⟩ = some (.int .i64 g1) ∧ w'.cell? ⟨w.heap.size + 1, 2, none⟩ = some (.int .i64 g2) ∧ w'.cell? ⟨w.heap.size + 1, 3, none⟩ = some (.int .i64 g3) ∧ w'.cell? ⟨w.heap.size + 1, 4, none⟩ = some (.int .i64 g4) ∧ w'.cell? ⟨w.heap.size + 1, 5, none⟩ = some (.int .i64 g5) ∧ w'.cell? ⟨w.heap.size + 1, 6, none⟩ = some (.int .i64 g6) ∧ w'.cell? ⟨w.heap.size + 1, 7, none⟩ = some (.int .i64 g7) ∧ w'.cell? ⟨w.heap.size + 1, 8, none⟩ = some (.int .i64 g8) ∧ w'.cell? ⟨w.heap.size + 1, 9, none⟩ = some (.int .i64 g9) ∧ w'.cell? ⟨w.heap.size + 1, 10, none⟩ = some (.int .i64 g10) ∧ w'.cell? ⟨w.heap.size + 1, 11, none⟩ = some (.int .i64 g11) ∧ w'.cell? ⟨w.heap.size + 1, 12, none⟩ = some (.int .i64 g12) ∧ w'.cell? ⟨wr.heap.size, 0, none⟩ = some (.int .i64 x) ∧ w'.cell? ⟨wr.heap.size, 1, none⟩ = some (.int .i64 y) ∧ w'.cell? ⟨wr.heap.size, 2, none⟩ = some (.int .i64 ((i : Int) + 1))) (by kernel_rfl) (HS _ ((Below.refl _ _).drew)) (fun hHeld => ?_)
      refine wpTop.take 0 (v := ?_) rfl (by kernel_rfl) (by kernel_rfl) (by kernel_rfl) (by kernel_rfl) (fun _ _ _ h => h) (Or.inl ⟨by rfl, ?_⟩) (by assumption) ?_
      rotate_left
      · intro w hSw; (try dsimp only at hSw); go_simp; try (with_reducible rfl)
      try simp only [Act.put, List.setIfInBounds_toArray, List.set_cons_zero, List.set_cons_succ, List.getElem_toArray, List.getElem_cons_zero, List.getElem_cons_succ]
      refine wpTop.take 1 (v := ?_) rfl (by kernel_rfl) (by kernel_rfl) (by kernel_rfl) (by kernel_rfl) (fun _ _ _ h => h) (Or.inl ⟨by rfl, ?_⟩) (by assumption) ?_
      rotate_left
      · intro w hSw; (try dsimp only at hSw); go_simp; try (with_reducible rfl)
      try simp only [Act.put, List.setIfInBounds_toArray, List.set_cons_zero, List.set_cons_succ, List.getElem_toArray, List.getElem_cons_zero, List.getElem_cons_succ]
      refine wpTop.take 2 (v := ?_) rfl (by kernel_rfl) (by kernel_rfl) (by kernel_rfl) (by kernel_rfl) (fun _ _ _ h => h) (Or.inl ⟨by rfl, ?_⟩) (by assumption) ?_
      rotate_left
      · intro w hSw; (try dsimp only at hSw); go_simp; try (with_reducible rfl)
      try simp only [Act.put, List.setIfInBounds_toArray, List.set_cons_zero, List.set_cons_succ, List.getElem_toArray, List.getElem_cons_zero, List.getElem_cons_succ]
      refine wpTop.take 4 (v := ?_) rfl (by kernel_rfl) (by kernel_rfl) (by kernel_rfl) (by kernel_rfl) (fun _ _ _ h => h) (Or.inl ⟨by rfl, ?_⟩) (by assumption) ?_
      rotate_left
      · intro w hSw; (try dsimp only at hSw); go_simp; try (with_reducible rfl)
      try simp only [Act.put, List.setIfInBounds_toArray, List.set_cons_zero, List.set_cons_succ, List.getElem_toArray, List.getElem_cons_zero, List.getElem_cons_succ]
      refine wpTop.one 3 rfl (by kernel_rfl) (fun K hK => ?_)
      go_simp
      (with_reducible refine (CR _).mono ?_)
      rintro e w8 ⟨rfl, hb8'⟩
      have hb8 : Below w7.heap.size w7 w8 := ((Below.refl w7.heap.size w7).drew).trans hb8'
      refine hK.out _ _ (fun _ => HS _ hb8) (fun hH => ?_)
      clear hK K
      have hHeld := hH (by decide)
      clear hH
      try simp only [Act.put, List.setIfInBounds_toArray, List.set_cons_zero, List.set_cons_succ, List.getElem_toArray, List.getElem_cons_zero, List.getElem_cons_succ]
      refine wpTop.one 5 rfl (by kernel_rfl) (fun K hK => ?_)
      go_simp
      (with_reducible refine (HCI.out _ hb8).mono ?_)
      rintro e w9 (⟨rfl, X9, ys9, hx9, hm9, hj9, hs9, hk9, ho9⟩ | ⟨rfl, X9, ys9, zs9, hm9, hj9, hs9, hk9⟩)
      · have S9 := HS9 _ w9 hb8 hs9 hk9
        refine hK.out _ _ (fun _ => S9) (fun hH => ?_)
        clear hK K
        have hHeld := hH (by decide)
        clear hH
        try simp only [Act.put, List.setIfInBounds_toArray, List.set_cons_zero, List.set_cons_succ, List.getElem_toArray, List.getElem_cons_zero, List.getElem_cons_succ]
        refine wpTop.one 6 rfl (by kernel_rfl) (fun K hK => ?_)
        go_simp

        refine hK.out _ _ (fun _ => S9) (fun hH => ?_)
        clear hK K
        clear hH
        try simp only [Act.put, List.setIfInBounds_toArray, List.set_cons_zero, List.set_cons_succ, List.getElem_toArray, List.getElem_cons_zero, List.getElem_cons_succ]
        refine wpTop.all (by kernel_rfl) ?_ _
        have hsz9 : w2.heap.size ≤ w9.heap.size := by have := HP.out.sz; have := hb8.size; omega
        have HB8 := Lib.hid hb8
        clear hb8 HS HS9
        go_wp2_with fail
        go_roundw
        case rel =>
          refine ⟨i + 1, X9, ys ++ ys9, .slice A6 (L.length + 1) c6, by omega, by go_num, ?_, hsz9, ?_⟩
          · rw [List.map_append, HYS.out, hm9, flatMap_range_succ, List.map_append, step_map]
          · rw [← List.append_assoc]
            exact HO.out.back hA hX HAC.out HBT.out.size HP.out HB8.out (fun k hk => .inl hk) hx9 hj9 hs9 hk9 ho9
        case measure => simp [intOf]; omega
      · have S9 := HS9 _ w9 hb8 hs9 hk9
        refine hK.out _ _ (fun _ => S9) (fun hH => ?_)
        clear hK K
        have hHeld := hH (by decide)
        clear hH
        try simp only [Act.put, List.setIfInBounds_toArray, List.set_cons_zero, List.set_cons_succ, List.getElem_toArray, List.getElem_cons_zero, List.getElem_cons_succ]
        refine wpTop.one 6 rfl (by kernel_rfl) (fun K hK => ?_)
        go_simp

        refine hK.out _ _ (fun _ => S9) (fun hH => ?_)
        clear hK K
        clear hH
        try simp only [Act.put, List.setIfInBounds_toArray, List.set_cons_zero, List.set_cons_succ, List.getElem_toArray, List.getElem_cons_zero, List.getElem_cons_succ]
        refine wpTop.all (by kernel_rfl) ?_ _
        have hszw : w.heap.size ≤ w9.heap.size := by have := HP.out.sz; have := hb8.size; omega
        have HB8 := Lib.hid hb8
        clear hb8 HS HS9
        go_wp2_with fail
        go_ret
        obtain ⟨Z, hZ⟩ := split_range r i hir (stepF 6 H k f x y (fills 6 H))
        refine .inr ⟨rfl, X9, ys ++ ys9, zs9 ++ Z.map (L ++ ·), ?_, by rw [← List.append_assoc]; exact hj9, hszw, HO.out.kept hA hX HAC.out HBT.out.size HP.out HB8.out (fun k hk => .inl hk) hk9⟩
        rw [HFI.out, hZ, List.map_append, List.map_append, List.map_append, HYS.out, step_map, ← hm9]
        simp only [List.append_assoc]
    · obtain rfl : i = r := by omega
      have i1 : ¬ ((i + 1 : Nat) : Int) ≤ (i : Int) := by omega
      have HO := Lib.hid hO
      clear hO
      go_wp2_with fail
      go_ret
      exact .inl ⟨rfl, Xr, ys, HO.out.xx, by rw [HFI.out, HYS.out], HO.out.j, by have := HO.out.fb.sz; omega, HO.out.kb, HO.out.own⟩
end Go.Proofs.Ytdpbjmdgjhleeaa
namespace Go.Proofs.Ytdpbjmdgjhleeaa
open Go.RowKit Go.Shelf
attribute [local go_sem] Oper.semAt_some

theorem fillOn_any (W : Nat) (H : Int) (l B : Nat) (J Jx : (Nat → Prop) → List CV → World → Prop) (hJ : AbX J) (hJx : AbX Jx) (hW1 : 1 ≤ W) (hW : W ≤ 13) (hH : H ≤ 6)
    (T : List (List Sq)) (Z : Nat) (hY : ∀ m X pre x W1, x.1 ∈ T → pre.length < Z → J X pre W1 → OkC B X x W1 → (∀ k, X k → B ≤ k ∧ k < W1.heap.size) → (∃ X', J X' pre W1 ∧ ∀ b, (Value.slice x.2.1 x.1.length x.2.2).ownBlock = some b → X' b) → YieldAt Fence.wide m Try.prog l (encC W H x) W1 fun e W' =>
      (e = .returned (.bool true) ∧ J X (pre ++ [x]) W' ∧ KeepX X W1 W') ∨ (e = .returned (.bool false) ∧ Jx X (pre ++ [x]) W' ∧ KeepX X W1 W')) (k : Nat) :
    ∀ (f : List Int) (L : List Sq) (A : Option Addr) (c : Nat) (X : Nat → Prop) (pre : List CV) (w : World), Fl W H f → free W H f ≤ k → L.length + free W H f ≤ 36 → (∀ M ∈ fills 6 H k f, L ++ M ∈ T) → pre.length + (fills 6 H k f).length ≤ Z → w.ownsRow B 85 3 (.slice A L.length c) L.length (flat L) →
      (∀ b, (Value.slice A L.length c).ownBlock = some b → X b) → JB J B X pre w → Calls Try.prog 153 #[.agg #[.int .i64 W, .int .i64 H, .slice A L.length c], arr (pad f), .func (.yield l) #[] #[]] w (FillPost J Jx B X pre L A L.length c (fills 6 H k f) w) := by
  induction k with
  | zero =>
    intro f L A c X pre w hf hk h36 hT hZ ho hA hj
    obtain ⟨x, y, r, hm, hr⟩ := hf.rm hW1
    obtain rfl := hf.zero (by omega) hm hr
    exact fillOn_leaf W H l B J Jx hJ hJx hW1 hW (by omega) T Z hY f x y hf hm hr L A L.length c X pre w rfl (by omega) (by have := hT [] (by rw [fills_leaf hm hr]; exact List.mem_singleton_self _); simpa using this) (by rw [fills_leaf hm hr] at hZ; simp only [List.length_singleton] at hZ; omega) ho hA hj
  | succ k ih =>
    intro f L A c X pre w hf hk h36 hT hZ ho hA hj
    obtain ⟨x, y, r, hm, hr⟩ := hf.rm hW1
    by_cases h0 : r = 0
    · subst h0
      rw [fills_leaf hm hr]
      exact fillOn_leaf W H l B J Jx hJ hJx hW1 hW (by omega) T Z hY f x y hf hm hr L A L.length c X pre w rfl (by omega) (by have := hT [] (by rw [fills_leaf hm hr]; exact List.mem_singleton_self _); simpa using this) (by rw [fills_leaf hm hr] at hZ; simp only [List.length_singleton] at hZ; omega) ho hA hj
    · exact fillOn_node W H l B J Jx hJ hJx hW1 hW hH T Z k ih f x r y hf hk hm hr h0 L A c X pre w h36 hT hZ ho hA hj

/-- All cuts of a width and a height, in their order. -/
noncomputable def allF (W H : Nat) : List (List Sq) := fills 6 H (W * H) (List.replicate W 0)
theorem sum_zeros (n : Nat) : (List.replicate n (0 : Int)).sum = 0 := by induction n with | zero => rfl | succ n ih => simp [List.replicate_succ]
theorem free_start (W H : Nat) : free W H (List.replicate W 0) = W * H := by
  unfold free
  rw [sum_zeros]
  have : ((W : Int) * (H : Int)) = ((W * H : Nat) : Int) := by simp
  omega
theorem pad_zeros {W : Nat} (h : W ≤ 13) : arr (pad (List.replicate W 0)) = .agg #[.int .i64 0, .int .i64 0, .int .i64 0, .int .i64 0, .int .i64 0, .int .i64 0, .int .i64 0, .int .i64 0, .int .i64 0, .int .i64 0, .int .i64 0, .int .i64 0, .int .i64 0] := by
  have e : pad (List.replicate W 0) = List.replicate 13 0 := by
    unfold pad
    rw [List.length_replicate, List.replicate_append_replicate]
    congr 1; omega
  rw [e]; rfl

set_option maxRecDepth 100000 in
set_option maxHeartbeats 2000000 in
theorem fill_seq (W H : Nat) (hW : 1 ≤ W ∧ W ≤ 6) (hH : 1 ≤ H ∧ H ≤ 6) (n Bw Bh : Nat) (w : World) (hw : w.cell? ⟨Bw, 0, none⟩ = some (.int .i64 W)) (hh : w.cell? ⟨Bh, 0, none⟩ = some (.int .i64 H)) :
    SeqX Fence.wide n Try.prog 152 #[.pointer (some ⟨Bw, 0, none⟩), .pointer (some ⟨Bh, 0, none⟩)] (encC W H) (fun X x V => x.1 ∈ allF W H ∧ OkC w.heap.size X x V) (fun xs => xs.map (·.1) = allF W H) (fun pre => ∃ zs, pre.map (·.1) ++ zs = allF W H) w := by
  intro l J Jx V hV hJ hJx hY h0
  have bw := World.block_lt_of_cell? _ _ hw
  have bh := World.block_lt_of_cell? _ _ hh
  have c0 := (hV.cell (p := ⟨Bw, 0, none⟩) bw).trans hw
  have c1 := (hV.cell (p := ⟨Bh, 0, none⟩) bh).trans hh
  have hf : Fl W H (List.replicate W 0) := Fl.start W (by omega)
  have hle : W * H ≤ 36 := by
    have := Nat.mul_le_mul hW.2 hH.2
    omega
  have C := fillOn_any W H l V.heap.size J Jx hJ hJx hW.1 (by omega) (by omega) (allF W H) (allF W H).length (fun m X pre x W1 hT hz hj hok hx _ => yield_any rfl m (hY X pre x W1 hj ⟨hT, own_base hok.1 hV.size, hok.2⟩ hx)) (W * H) (List.replicate W 0) [] none 0 (fun _ => False) [] V hf (by rw [free_start]; omega) (by rw [free_start]; simpa using hle) (fun M hM => by simpa [allF] using hM) (by simp [allF]) (World.ownsRow_nil _ _ _ _) (fun b hb => by cases hb) ⟨h0, fun k hk => hk.elim, Nat.le_refl _⟩
  rw [pad_zeros (by omega)] at C
  have HC := Lib.hid C
  clear C hY hf hle
  refine (callsIn_wide (n := n)).2 ?_
  show Calls Try.prog 152 #[.func (.yield l) #[] #[], .pointer (some ⟨Bw, 0, none⟩), .pointer (some ⟨Bh, 0, none⟩)] V _
  go_enter Try.func152, Try.ntmps152
  go_wp2_with fail
  refine HC.out.mono ?_
  rintro e W' (⟨rfl, X', ys, hx, hm, hj, _⟩ | ⟨rfl, X', ys, zs, hm, hj, _⟩)
  · go_wp2_with fail
    go_end0
    refine ⟨⟨_, rfl⟩, .inl ⟨ys, X', ?_, hj.j⟩⟩
    rw [hm]; simp [allF]
  · go_wp2_with fail
    go_end0
    refine ⟨⟨_, rfl⟩, .inr ⟨ys, X', ⟨zs, ?_⟩, hj⟩⟩
    rw [hm]; simp [allF]

set_option maxRecDepth 100000 in
set_option maxHeartbeats 2000000 in
theorem fill_seqz (W H : Nat) (hW : 1 ≤ W ∧ W ≤ 6) (hH : 1 ≤ H ∧ H ≤ 6) (n Bw Bh : Nat) (w : World) (hw : w.cell? ⟨Bw, 0, none⟩ = some (.int .i64 W)) (hh : w.cell? ⟨Bh, 0, none⟩ = some (.int .i64 H)) :
    SeqZ (fun (x : CV) b => (Value.slice x.2.1 x.1.length x.2.2).ownBlock = some b) (allF W H).length Fence.wide n Try.prog 152 #[.pointer (some ⟨Bw, 0, none⟩), .pointer (some ⟨Bh, 0, none⟩)] (encC W H) (fun X x V => x.1 ∈ allF W H ∧ OkC w.heap.size X x V) (fun xs => xs.map (·.1) = allF W H) (fun pre => ∃ zs, pre.map (·.1) ++ zs = allF W H) w := by
  intro l J Jx V hV hJ hJx hY h0
  have bw := World.block_lt_of_cell? _ _ hw
  have bh := World.block_lt_of_cell? _ _ hh
  have c0 := (hV.cell (p := ⟨Bw, 0, none⟩) bw).trans hw
  have c1 := (hV.cell (p := ⟨Bh, 0, none⟩) bh).trans hh
  have hf : Fl W H (List.replicate W 0) := Fl.start W (by omega)
  have hle : W * H ≤ 36 := by
    have := Nat.mul_le_mul hW.2 hH.2
    omega
  have C := fillOn_any W H l V.heap.size J Jx hJ hJx hW.1 (by omega) (by omega) (allF W H) (allF W H).length (fun m X pre x W1 hT hz hj hok hx hfr => yield_any rfl m (hY X pre x W1 hj ⟨hT, own_base hok.1 hV.size, hok.2⟩ hx hfr hz)) (W * H) (List.replicate W 0) [] none 0 (fun _ => False) [] V hf (by rw [free_start]; omega) (by rw [free_start]; simpa using hle) (fun M hM => by simpa [allF] using hM) (by simp [allF]) (World.ownsRow_nil _ _ _ _) (fun b hb => by cases hb) ⟨h0, fun k hk => hk.elim, Nat.le_refl _⟩
  rw [pad_zeros (by omega)] at C
  have HC := Lib.hid C
  clear C hY hf hle
  refine (callsIn_wide (n := n)).2 ?_
  show Calls Try.prog 152 #[.func (.yield l) #[] #[], .pointer (some ⟨Bw, 0, none⟩), .pointer (some ⟨Bh, 0, none⟩)] V _
  go_enter Try.func152, Try.ntmps152
  go_wp2_with fail
  refine HC.out.mono ?_
  rintro e W' (⟨rfl, X', ys, hx, hm, hj, _⟩ | ⟨rfl, X', ys, zs, hm, hj, _⟩)
  · go_wp2_with fail
    go_end0
    refine ⟨⟨_, rfl⟩, .inl ⟨ys, X', ?_, hj.j⟩⟩
    rw [hm]; simp [allF]
  · go_wp2_with fail
    go_end0
    refine ⟨⟨_, rfl⟩, .inr ⟨ys, X', ⟨zs, ?_⟩, hj⟩⟩
    rw [hm]; simp [allF]

theorem fillings_any (W H : Int) (w : World) :
    Calls Try.prog 132 #[.int .i64 W, .int .i64 H] w fun e w' => e = .returned (.func (.func 152) #[] #[.pointer (some ⟨w.heap.size, 0, none⟩), .pointer (some ⟨w.heap.size + 1, 0, none⟩)]) ∧ w' = (w.alloc (.cells #[.int .i64 W] 3)).alloc (.cells #[.int .i64 H] 3) := by
  go_enter Try.func132, Try.ntmps132
  go_wp2
  go_ret
  exact ⟨rfl, rfl⟩
theorem valuesC_any (A : Option Addr) (n c : Nat) (w : World) :
    Calls Try.prog 114 #[.slice A n c] w fun e w' => e = .returned (.func (.func 134) #[] #[.pointer (some ⟨w.heap.size, 0, none⟩)]) ∧ Below w.heap.size w w' := by
  go_enter Try.func114, Try.ntmps114
  go_wp2
  go_ret
  exact ⟨rfl, (Below.refl _ _).alloc (Nat.le_refl _) _⟩
end Go.Proofs.Ytdpbjmdgjhleeaa
