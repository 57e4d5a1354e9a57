/- The program's filler of strips: what it is, the columns behind a column. -/
import Derived.Test.YtebnekicbcdnaaaSf
import Derived.Test.YtebnekicbcdnaaaSg
import Derived.BigQuiet
set_option linter.all false
namespace Go.Proofs.Ytebnekicbcdnaaa
open Go.RowKit

def pad4 (f : List Int) : List Int := f ++ List.replicate (4 - f.length) 0
theorem pad4_len {f : List Int} (h : f.length ≤ 4) : (pad4 f).length = 4 := by simp [pad4]; omega
theorem pad4_get {f : List Int} {j : Nat} (h : j < f.length) : (pad4 f)[j]? = f[j]? := by simp [pad4, List.getElem?_append_left h]
theorem pad4_lift {f : List Int} {x s : Nat} {v : Int} (h : x + s ≤ f.length) : liftF (pad4 f) x s v = pad4 (liftF f x s v) := by
  apply List.ext_getElem?
  intro i
  rw [liftF_get]
  unfold pad4
  rw [liftF_len]
  by_cases hi : i < f.length
  · rw [List.getElem?_append_left hi, List.getElem?_append_left (by rw [liftF_len]; exact hi), liftF_get]
  · rw [List.getElem?_append_right (by omega), List.getElem?_append_right (by rw [liftF_len]; omega), liftF_len]
    cases h' : (List.replicate (4 - f.length) (0 : Int))[i - f.length]? with
    | none => rfl
    | some u => simp only [Option.map_some]; rw [if_neg (by omega)]
theorem pad4_bd {f : List Int} (hf : ∀ (i : Nat) u, f[i]? = some u → 0 ≤ u ∧ u ≤ 500) : ∀ (i : Nat) u, (pad4 f)[i]? = some u → 0 ≤ u ∧ u ≤ 500 := by
  intro i u hu
  unfold pad4 at hu
  by_cases hi : i < f.length
  · rw [List.getElem?_append_left hi] at hu; exact hf i u hu
  · rw [List.getElem?_append_right (by omega), List.getElem?_replicate] at hu
    split at hu
    · cases hu; omega
    · cases hu
theorem pad4_inj {f f' : List Int} (h : f.length = f'.length) (e : pad4 f = pad4 f') : f = f' := by
  unfold pad4 at e
  exact (List.append_inj e h).1
theorem arr_inj {f f' : List Int} (e : arr f = arr f') : f = f' := by
  unfold arr at e
  have h1 : (ints f).toArray = (ints f').toArray := by injection e
  have h2 : ints f = ints f' := by simpa using h1
  unfold ints at h2
  have : ∀ (a b : List Int), a.map (Value.int .i64) = b.map (Value.int .i64) → a = b := by
    intro a
    induction a with
    | nil => intro b hb; cases b with
      | nil => rfl
      | cons _ _ => simp at hb
    | cons x a ih => intro b hb; cases b with
      | nil => simp at hb
      | cons y b => simp at hb; rw [hb.1, ih b (by simpa using hb.2)]
  exact this f f' h2
/-- The filler's struct. -/
structure SF (b h H : Nat) (fv : Value) (m : Nat) (w : World) : Prop where
  c0 : w.cell? ⟨b, 0, none⟩ = some (.int .i64 h)
  c1 : w.cell? ⟨b, 1, none⟩ = some (.int .i64 H)
  c2 : w.cell? ⟨b, 2, none⟩ = some fv
  c3 : w.cell? ⟨b, 3, none⟩ = some (.map (some m))
theorem SF.lt {b h H m : Nat} {fv : Value} {w : World} (S : SF b h H fv m w) : b < w.heap.size := World.block_lt_of_cell? _ _ S.c0
theorem SF.keep {b h H m : Nat} {fv : Value} {w w' : World} {N : Nat} (S : SF b h H fv m w) (hb : Below N w w') (hN : b < N) : SF b h H fv m w' :=
  ⟨(hb.cell (p := ⟨b, 0, none⟩) hN).trans S.c0, (hb.cell (p := ⟨b, 1, none⟩) hN).trans S.c1, (hb.cell (p := ⟨b, 2, none⟩) hN).trans S.c2, (hb.cell (p := ⟨b, 3, none⟩) hN).trans S.c3⟩
/-- A column that is filled up to a line. -/
def flatC (h : Nat) (x : Int) : List Int := List.replicate h x
theorem flat_lift {h : Nat} (h4 : h ≤ 4) (x : Int) : liftF (List.replicate 4 0) 0 h x = pad4 (flatC h x) := by
  apply List.ext_getElem?
  intro i
  rw [liftF_get]
  unfold pad4 flatC
  rw [List.length_replicate, List.getElem?_replicate]
  by_cases hi : i < h
  · rw [List.getElem?_append_left (by rw [List.length_replicate]; exact hi), List.getElem?_replicate, if_pos hi, if_pos (by omega)]
    simp [hi]
  · rw [List.getElem?_append_right (by rw [List.length_replicate]; omega), List.length_replicate, List.getElem?_replicate]
    by_cases h2 : i < 4
    · rw [if_pos h2, if_pos (by omega)]
      simp [hi]
    · rw [if_neg h2, if_neg (by omega)]; rfl
set_option maxRecDepth 100000 in
theorem filledTo_any (b h H m : Nat) (fv : Value) (x : Int) (h1 : 1 ≤ h) (h4 : h ≤ 4) (hx : 0 ≤ x ∧ x ≤ 500) (w : World) (c0 : w.cell? ⟨b, 0, none⟩ = some (.int .i64 h)) :
    Calls Try.prog 85 #[.pointer (some ⟨b, 0, none⟩), .int .i64 x] w fun e w' => e = .returned (arr (pad4 (flatC h x))) ∧ Below w.heap.size w w' := by
  have hblt := World.block_lt_of_cell? _ _ c0
  obtain ⟨W1, hW1⟩ : ∃ W1, W1 = w.alloc (.cells #[.int .i64 0, .int .i64 0, .int .i64 0, .int .i64 0] 82) := ⟨_, rfl⟩
  have hb1 : Below w.heap.size w W1 := by rw [hW1]; exact (Below.refl _ _).alloc (Nat.le_refl _) _
  have c0' := (hb1.cell (p := ⟨b, 0, none⟩) hblt).trans c0
  have hR : ∀ j, j < 4 → W1.cell? ⟨w.heap.size, j, none⟩ = some (.int .i64 0) := fun j hj => by
    rw [hW1]
    exact Cols.new _ (List.replicate 4 0) _ j 0 (by rw [List.getElem?_replicate, if_pos hj])
  have hQ : ∀ o, W1.frozen? ⟨w.heap.size, o, none⟩ = false := fun o => by rw [hW1]; exact World.frozen?_alloc_at _ _ _ _ rfl
  have hs1 : w.heap.size < W1.heap.size := by rw [hW1]; simp
  have C := farther_any [0, 0, 0, 0] 0 h ((h : Int) - 1) x rfl h1 (by omega) (by omega) (fun i u hu => by
    have : u ∈ [(0 : Int), 0, 0, 0] := List.mem_of_getElem? hu
    simp at this; omega) hx W1
  rw [show liftF [0, 0, 0, 0] 0 h x = pad4 (flatC h x) from flat_lift h4 x] at C
  have hlen : (pad4 (flatC h x)).length = 4 := pad4_len (by simp [flatC]; exact h4)
  obtain ⟨g0, g1, g2, g3, hg⟩ := len4 hlen
  rw [hg] at C ⊢
  simp only [arr, ints, List.map_cons, List.map_nil] at C ⊢
  have HC := Lib.hid C
  have hn : (1 : Int) ≤ (h : Int) := by omega
  clear C hlen hg
  go_enter Try.func85, Try.ntmps85
  go_wp2_with fail
  rw [← hW1]
  clear hW1
  go_wp2_with fail
  refine HC.out.mono ?_
  rintro e w2 ⟨rfl, hb2⟩
  have r0 := (hb2.cell (p := ⟨w.heap.size, 0, none⟩) hs1).trans (hR 0 (by omega))
  have r1 := (hb2.cell (p := ⟨w.heap.size, 1, none⟩) hs1).trans (hR 1 (by omega))
  have r2 := (hb2.cell (p := ⟨w.heap.size, 2, none⟩) hs1).trans (hR 2 (by omega))
  have r3 := (hb2.cell (p := ⟨w.heap.size, 3, none⟩) hs1).trans (hR 3 (by omega))
  have f0 := (hb2.frozen (p := ⟨w.heap.size, 0, none⟩) hs1).trans (hQ 0)
  have f1 := (hb2.frozen (p := ⟨w.heap.size, 1, none⟩) hs1).trans (hQ 1)
  have f2 := (hb2.frozen (p := ⟨w.heap.size, 2, none⟩) hs1).trans (hQ 2)
  have f3 := (hb2.frozen (p := ⟨w.heap.size, 3, none⟩) hs1).trans (hQ 3)
  have hB := hb1.trans (hb2.mono hb1.size)
  clear hR hQ HC
  go_wp2_with fail
  refine bodyPost_ret (v := .agg #[.int .i64 g0, .int .i64 g1, .int .i64 g2, .int .i64 g3]) (by simp [results, Try.results85, go_sem, r0, r1, r2, r3]) rfl ?_
  refine ⟨rfl, ?_⟩
  have n2 := Nat.le_refl w.heap.size
  exact (((hB.setCell (p := ⟨w.heap.size, 0, none⟩) n2 _).setCell (p := ⟨w.heap.size, 1, none⟩) n2 _).setCell (p := ⟨w.heap.size, 2, none⟩) n2 _).setCell (p := ⟨w.heap.size, 3, none⟩) n2 _
theorem infoCol : (Try.prog.info? 82).map (fun i => (i.zero, i.size, i.bytes)) = some (some (.agg #[.int .i64 0, .int .i64 0, .int .i64 0, .int .i64 0]), 4, 32) := by kernel_rfl
/-- These columns lie in a row, so far. -/
def ColsIn (xs : List Value) (cs : Nat → List Int) (n : Nat) : Prop := ∀ k, k < n → ∀ (j : Nat) u, (cs k)[j]? = some u → xs[k * 4 + j]? = some (.int .i64 u)
theorem ColsIn.set4 {xs : List Value} {cs : Nat → List Int} {n r : Nat} (h : ColsIn xs cs n) (hcl : ∀ k, (cs k).length = 4) (hl : xs.length = r * 4) (hn : n < r) {g0 g1 g2 g3 : Int} (hc : cs n = [g0, g1, g2, g3]) :
    ColsIn ((((xs.set (n * 4) (.int .i64 g0)).set (n * 4 + 1) (.int .i64 g1)).set (n * 4 + 2) (.int .i64 g2)).set (n * 4 + 3) (.int .i64 g3)) cs (n + 1) := by
  intro k hk j u hu
  by_cases e : k = n
  · subst e
    rw [hc] at hu
    have hj : j < 4 := by have := (List.getElem?_eq_some_iff.1 hu).1; simpa using this
    have hj' : j = 0 ∨ j = 1 ∨ j = 2 ∨ j = 3 := by omega
    simp only [List.getElem?_set, List.length_set]
    rcases hj' with rfl | rfl | rfl | rfl
    · simp at hu; subst hu; rw [if_neg (by omega), if_neg (by omega), if_neg (by omega), if_pos (by omega), if_pos (by omega)]
    · simp at hu; subst hu; rw [if_neg (by omega), if_neg (by omega), if_pos (by omega), if_pos (by omega)]
    · simp at hu; subst hu; rw [if_neg (by omega), if_pos (by omega), if_pos (by omega)]
    · simp at hu; subst hu; rw [if_pos (by omega), if_pos (by omega)]
  · have h1 := h k (by omega) j u hu
    have hj : j < 4 := by have := (List.getElem?_eq_some_iff.1 hu).1; rw [hcl k] at this; exact this
    simp only [List.getElem?_set]
    rw [if_neg (by omega), if_neg (by omega), if_neg (by omega), if_neg (by omega)]
    exact h1
/-- The columns behind a column. -/
def nx (f : List Int) (x k : Nat) : List Int := pad4 (liftF f x (k + 1) ((k + 1 : Nat) : Int))
set_option maxRecDepth 100000 in
set_option maxHeartbeats 8000000 in
theorem next_any (b h H m : Nat) (fv : Value) (f : List Int) (x r : Nat) (y : Int) (h1 : 1 ≤ h) (h4 : h ≤ 4) (hH : H ≤ 30) (hf : Fl h H f) (hm : FM f x y) (hr : RM f H x y r) (w : World) (S : SF b h H fv m w) :
    Calls Try.prog 83 #[.pointer (some ⟨b, 0, none⟩), arr (pad4 f)] w fun e w' => ∃ g xs, e = .returned (.slice (some ⟨g, 0, none⟩) r r) ∧ w'.ownsRow w.heap.size 82 4 (.slice (some ⟨g, 0, none⟩) r r) r xs ∧ ColsIn xs (nx f x) r ∧ Below w.heap.size w w' := by
  have hl := hf.len
  have hp4 : (pad4 f).length = 4 := pad4_len (by omega)
  have hbd : ∀ (i : Nat) u, f[i]? = some u → 0 ≤ u ∧ u ≤ 500 := fun i u hu => ⟨hf.lo i u hu, by have := hf.hi i u hu; omega⟩
  have hrw := hr.w
  have hr4 : r ≤ 4 := by omega
  obtain ⟨i0, hi, hz0, hz1, hz2⟩ := info_parts infoCol
  obtain ⟨W1, hW1⟩ : ∃ W1, W1 = w.alloc (.cells (ints (pad4 f)).toArray 82) := ⟨_, rfl⟩
  have hb1 : Below w.heap.size w W1 := by rw [hW1]; exact (Below.refl _ _).alloc (Nat.le_refl _) _
  have hC1 : Cols W1 w.heap.size (pad4 f) := by rw [hW1]; exact Cols.new _ _ _
  have hs1 : w.heap.size < W1.heap.size := by rw [hW1]; simp
  have S1 := S.keep hb1 S.lt
  have hCf : ∀ (j : Nat) u, f[j]? = some u → W1.cell? ⟨w.heap.size, j, none⟩ = some (.int .i64 u) := fun j u hu => hC1 j u (by rw [pad4_get (List.getElem?_eq_some_iff.1 hu).1]; exact hu)
  have D1 : ∀ u : Later W1.heap.size W1, Calls Try.prog 103 #[.slice (some ⟨w.heap.size, 0, none⟩) h 4, .int .i64 H] u.val fun e w' => e = .returned (.tuple #[.int .i64 x, .int .i64 y, .int .i64 r]) ∧ Below u.val.heap.size u.val w' := fun u =>
    (firstFree_any h H f x r y hf h1 (by omega) (by omega) hm hr w.heap.size 4 u.val (Nat.lt_of_lt_of_le hs1 u.ok.size) (fun j v hv => (u.ok.cell (p := ⟨w.heap.size, j, none⟩) hs1).trans (hCf j v hv))).mono (by rintro e w' ⟨rfl, rfl⟩; exact ⟨rfl, Below.refl _ _⟩)
  have hblt : b < W1.heap.size := S1.lt
  have F0 : ∀ u : Later W1.heap.size W1, u.val.cell? ⟨b, 0, none⟩ = some (.int .i64 h) := fun u => (u.ok.cell (p := ⟨b, _, none⟩) hblt).trans S1.c0
  have F1 : ∀ u : Later W1.heap.size W1, u.val.cell? ⟨b, 1, none⟩ = some (.int .i64 H) := fun u => (u.ok.cell (p := ⟨b, _, none⟩) hblt).trans S1.c1
  have hp' : (ints (pad4 f)).length = 4 := by rw [ints_len]; exact hp4
  have HP4 := Lib.hid hp4
  have HBD := Lib.hid (pad4_bd hbd)
  have HL := Lib.hid hl
  have HC1 := Lib.hid hC1
  have HCL : Hid (∀ k, k < r → (nx f x k).length = 4 ∧ liftF (pad4 f) x (k + 1) ((k + 1 : Nat) : Int) = nx f x k) := Lib.hid fun k hk => ⟨pad4_len (by rw [liftF_len]; omega), pad4_lift (by omega)⟩
  have HCL0 : Hid (∀ k, (nx f x k).length = 4) := Lib.hid fun k => pad4_len (by rw [liftF_len]; omega)
  have j1 : (h : Int) ≤ 4 := by omega
  have j2 : (1 : Int) ≤ (h : Int) := by omega
  have k1 : (r : Int) ≤ 4 := by omega
  clear hp4 hbd hl hC1 S S1 hCf hf hm hr
  unfold arr
  go_enter Try.func83, Try.ntmps83
  go_wp2_with fail
  rw [← hW1]
  clear hW1
  go_wp2_with fail
  refine wp_region_sub W1.heap.size (by kernel_rfl) (by kernel_rfl) ?_
  iterate 17 (first | go_big_quiet_step ((go_at_call 103; with_reducible exact sub_of _ (Nat.le_refl _) (D1 _))) | quiet_step ((go_at_call 103; with_reducible exact sub_of _ (Nat.le_refl _) (D1 _))))
  refine wpQuiet_nil ?_
  rintro w2 ⟨uu, hu⟩
  have hb2 : Below W1.heap.size W1 w2 := by rw [hu]; exact uu.ok
  clear hu uu D1 F0 F1
  have hs2 := hb2.size
  go_wp2_with (at_make; refine wpList_make_full _ rfl _ _ 83 rfl w2.heap.size 82 i0 (.agg #[.int .i64 0, .int .i64 0, .int .i64 0, .int .i64 0]) 4 Try.underlying83 hi hz0 hz1 .i64 .i64 r r r rfl rfl rfl rfl (by rw [hz2]; omega) (by unfold maxLen; omega) (Nat.le_refl _) ?_; intro w3 hown hgrow)
  obtain ⟨B, hB⟩ : ∃ B, B = w2.heap.size := ⟨_, rfl⟩
  have hb3 : Below w2.heap.size w2 w3 := (Below.refl _ _).grown hgrow (Nat.le_refl _) (by simp)
  have hB13 : Below W1.heap.size W1 w3 := hb2.trans (hb3.mono hs2)
  rw [← hB] at hown ⊢
  have HBQ := Lib.hid hB
  have hNB : W1.heap.size ≤ B := by omega
  have HOWN := Lib.hid hown
  have HB13 := Lib.hid hB13
  obtain ⟨g0, g1, g2, g3, hg⟩ := len4 HP4.out
  have HGG := Lib.hid hg
  clear hB hown hgrow hb2 hb3 hB13 hg hs2 hp'
  go_loopw [28] (fun iv wr => ∃ (k : Nat) (xs : List Value), k ≤ r ∧ iv = .int .i64 (k : Int) ∧ wr.ownsRow B 82 4 (.slice (some ⟨B, 0, none⟩) r r) r xs ∧ ColsIn xs (nx f x) k ∧ Below W1.heap.size W1 wr) (fun iv _ => r - (intOf iv).toNat)
  case atStart => exact ⟨0, _, Nat.zero_le _, rfl, HOWN.out, fun k hk => by omega, HB13.out⟩
  case round =>
    obtain ⟨k, xs, hk, rfl, ho, hci, hbr⟩ := hrel
    have hxs := ho.1
    by_cases hlt : k < r
    · have i1 : (k : Int) < (r : Int) := by omega
      have i0' : (0 : Int) ≤ (k : Int) := by omega
      have hCw := HC1.out.below hbr hs1
      rw [HGG.out] at hCw
      have c0 := hCw 0 g0 rfl
      have c1 := hCw 1 g1 rfl
      have c2 := hCw 2 g2 rfl
      have c3 := hCw 3 g3 rfl
      obtain ⟨hnl, hnx⟩ := HCL.out k hlt
      obtain ⟨n0, n1, n2, n3, hn⟩ := len4 hnl
      have CF := farther_any (pad4 f) x (k + 1) ((x : Int) + (k : Int)) ((k : Int) + 1) HP4.out (by omega) (by have := HL.out; omega) (by omega) HBD.out (by omega) wr
      rw [Int.natCast_succ] at hnx
      rw [hnx, hn, HGG.out] at CF
      simp only [arr, ints, List.map_cons, List.map_nil] at CF
      have HCF := Lib.hid CF
      have HN := Lib.hid hn
      have HO := Lib.hid ho
      have HCI := Lib.hid hci
      have wx : (x : Int) + (k : Int) ≤ 4 := by have := HL.out; omega
      have wx0 : (0 : Int) ≤ (x : Int) := by omega
      clear hCw hnl hnx hn CF ho hci
      go_wp2_with fail
      (with_reducible refine HCF.out.mono ?_)
      rintro e w4 ⟨rfl, hb4⟩
      have ho4 := own_keep HO.out hb4
      obtain ⟨v0, e0⟩ := own_some ho4 (j := k * 4) (by omega)
      obtain ⟨v1, e1⟩ := own_some ho4 (j := k * 4 + 1) (by omega)
      obtain ⟨v2, e2⟩ := own_some ho4 (j := k * 4 + 2) (by omega)
      obtain ⟨v3, e3⟩ := own_some ho4 (j := k * 4 + 3) (by omega)
      have f0 := ho4.frozenAt (k * 4)
      have f1 := ho4.frozenAt (k * 4 + 1)
      have f2 := ho4.frozenAt (k * 4 + 2)
      have f3 := ho4.frozenAt (k * 4 + 3)
      have hB4 := hbr.trans (hb4.mono hbr.size)
      have HO4 := Lib.hid ho4
      clear ho4 hb4 c0 c1 c2 c3
      go_wp2_with fail
      have R := ((((HO4.out.stored (k * 4) (.int .i64 n0)).1.stored (k * 4 + 1) (.int .i64 n1)).1.stored (k * 4 + 2) (.int .i64 n2)).1.stored (k * 4 + 3) (.int .i64 n3)).1
      have hCI := HCI.out.set4 HCL0.out hxs hlt HN.out
      have hBB := (((hB4.setCell (p := ⟨B, k * 4, none⟩) hNB (.int .i64 n0)).setCell (p := ⟨B, k * 4 + 1, none⟩) hNB (.int .i64 n1)).setCell (p := ⟨B, k * 4 + 2, none⟩) hNB (.int .i64 n2)).setCell (p := ⟨B, k * 4 + 3, none⟩) hNB (.int .i64 n3)
      go_roundw
      case rel => exact ⟨k + 1, _, by omega, by go_num, R, hCI, hBB⟩
      case measure => simp [intOf]; omega
    · obtain rfl : k = r := by omega
      go_wp2_with fail
      go_ret
      exact ⟨B, xs, rfl, own_base ho (by omega), hci, hb1.trans (hbr.mono hb1.size)⟩
end Go.Proofs.Ytebnekicbcdnaaa
