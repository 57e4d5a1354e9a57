/- The program's columns, filled farther. -/
import Derived.Test.YtebnekicbcdnaaaFf
set_option linter.all false
namespace Go.Proofs.Ytebnekicbcdnaaa
open Go.RowKit

theorem grown_setF (w : World) (b o : Nat) (v : Value) : w.grownBy (w.setCell ⟨b, o, none⟩ v) (some b) := ⟨rfl, rfl, rfl, by simp [World.setCell], fun k _ hne => Below.heap_setCell _ _ _ k (fun e => hne (by rw [e]))⟩
theorem grown_drewF (w : World) (r : Option Nat) : w.grownBy w.drew r := ⟨rfl, rfl, rfl, Nat.le_refl _, fun _ _ _ => rfl⟩
set_option maxRecDepth 100000 in
set_option maxHeartbeats 4000000 in
theorem fill1_any (b bb first n cap : Nat) (g : List Int) (v : Int) (w : World) (hC : Cols w b g) (hf : ∀ o, w.frozen? ⟨b, o, none⟩ = false) (hg : g.length = 4) (hn : first + n ≤ 4) (hb : ∀ (i : Nat) u, g[i]? = some u → 0 ≤ u ∧ u ≤ 500) (hv : 0 ≤ v ∧ v ≤ 500) (hbox : w.cell? ⟨bb, 0, none⟩ = some (.int .i64 v)) (hne : bb ≠ b) (hlt : b < w.heap.size) :
    Calls Try.prog 119 #[.slice (some ⟨b, first, none⟩) n cap, .pointer (some ⟨bb, 0, none⟩)] w fun e w' => e = .returned (.tuple #[]) ∧ Cols w' b (liftF g first n v) ∧ (∀ o, w'.frozen? ⟨b, o, none⟩ = false) ∧ w.grownBy w' (some b) := by
  have HB := Lib.hid hb
  have HG := Lib.hid hg
  have HF0 := Lib.hid hf
  have HC0 := Lib.hid hC
  have HBX := Lib.hid hbox
  have hbbl := World.block_lt_of_cell? _ _ hbox
  clear hb hg hf hC hbox
  go_enter Try.func119, Try.ntmps119
  go_wp2_with fail
  go_loopw [6] (fun kv wr => ∃ k : Nat, kv = .int .i64 (k : Int) ∧ k ≤ n ∧ Cols wr b (liftF g first k v) ∧ (∀ o, wr.frozen? ⟨b, o, none⟩ = false) ∧ w.grownBy wr (some b)) (fun kv _ => n - (intOf kv).toNat)
  case atStart => exact ⟨0, rfl, Nat.zero_le _, by rw [liftF_zero]; exact HC0.out, HF0.out, grown_refl _ _⟩
  case round =>
    obtain ⟨k, rfl, hk, hC, hf, hgr⟩ := hrel
    have hbb := hgr.cell HBX.out (by simp; omega)
    by_cases hlt2 : k < n
    · have i1 : (k : Int) < (n : Int) := by omega
      have i0 : (0 : Int) ≤ (k : Int) := by omega
      obtain ⟨u, hu⟩ : ∃ u, g[first + k]? = some u := ⟨_, List.getElem?_eq_getElem (by have := HG.out; omega)⟩
      have hub := HB.out _ _ hu
      have wu : IntKind.i64.wrap (u + v) = u + v := IntWalk.i64_in _ (by omega)
      have hcu : wr.cell? ⟨b, first + k, none⟩ = some (.int .i64 u) := hC _ _ (liftF_at g first k v u hu)
      have hfu := hf (first + k)
      have HU := Lib.hid hu
      have HC := Lib.hid hC
      have HFF := Lib.hid hf
      have HGR := Lib.hid hgr
      clear hu hC hf hgr
      go_wp2_with fail
      go_region
      go_wp2_with fail
      have hs := liftF_succ g first k v u HU.out
      refine ⟨⟨k + 1, by go_num, by omega, ?_, fun o => ?_, ?_⟩, by simp [intOf]; omega⟩
      · rw [hs]
        exact (HC.out.set (first + k) (u + v))
      · show (wr.setCell _ _).frozen? _ = false
        rw [World.frozen?_setCell]; exact HFF.out o
      · exact grown_trans (grown_trans HGR.out (grown_setF _ _ _ _)) (grown_drewF _ _)
    · obtain rfl : k = n := by omega
      go_wp2_with fail
      go_end0
      exact ⟨rfl, hC, hf, hgr⟩
theorem slice3_any (N first n : Nat) (h1 : 1 ≤ n) (hn : first + n ≤ 4) (W : World) : (Instr.sliceAt 82 (.pointer (some ⟨N, 0, none⟩)) (some (.int .i64 (first : Int))) (some (.int .i64 ((first : Int) + (n : Int)))) (some (.int .i64 ((first : Int) + (n : Int))))).run Try.prog W = .ok (.slice (some ⟨N, first, none⟩) n n) W := by
  have ht : Try.prog.underlying 82 = some (.array (Try.prog.arrayLen 82) (Try.prog.elem 82)) := by kernel_rfl
  have ha : Try.prog.arrayLen 82 = 4 := by kernel_rfl
  have hz : ∀ w, (Go.sizeOf (Try.prog.elem 82)).run Try.prog w = .ok 1 w := fun _ => by kernel_rfl
  rw [run_sliceAt_array_lhm W 82 ⟨N, 0, none⟩ ht .i64 .i64 .i64 _ _ _ (by omega) (by omega) (by omega) (by rw [ha]; omega), hz]
  have e1 : ((first : Int) + (n : Int)).toNat = first + n := by omega
  have e2 : ((first : Int)).toNat = first := by omega
  rw [e1, e2]
  unfold slicedAt
  have e3 : first + n - first = n := by omega
  rw [e3]
  simp only [Result.andThen]
  rw [if_neg (by omega)]
  simp [Addr.add]
  intro h
  omega
theorem len4 {g : List Int} (h : g.length = 4) : ∃ g0 g1 g2 g3, g = [g0, g1, g2, g3] := by
  match g, h with
  | [g0, g1, g2, g3], _ => exact ⟨_, _, _, _, rfl⟩
set_option maxRecDepth 100000 in
set_option maxHeartbeats 4000000 in
theorem farther_any (g : List Int) (first n : Nat) (l v : Int) (hg : g.length = 4) (hn1 : 1 ≤ n) (hn : first + n ≤ 4) (hl : l + 1 = (first : Int) + (n : Int)) (hb : ∀ (i : Nat) u, g[i]? = some u → 0 ≤ u ∧ u ≤ 500) (hv : 0 ≤ v ∧ v ≤ 500) (w : World) :
    Calls Try.prog 104 #[arr g, .int .i64 first, .int .i64 l, .int .i64 v] w fun e w' => e = .returned (arr (liftF g first n v)) ∧ Below w.heap.size w w' := by
  obtain ⟨W1, hW1⟩ : ∃ W1, W1 = (((w.alloc (.cells (ints g).toArray 82)).alloc (.cells #[.int .i64 v] 3)).alloc (.cells #[.int .i64 0, .int .i64 0, .int .i64 0, .int .i64 0] 82)) := ⟨_, rfl⟩
  obtain ⟨V, hV⟩ : ∃ V, V = w.alloc (.cells (ints g).toArray 82) := ⟨_, rfl⟩
  have hz : V.heap.size = w.heap.size + 1 := by rw [hV]; simp
  have hbV : Below w.heap.size w V := by rw [hV]; exact (Below.refl _ _).alloc (Nat.le_refl _) _
  have hcV : Cols V w.heap.size g := by rw [hV]; exact Cols.new _ _ _
  have hfV : ∀ o, V.frozen? ⟨w.heap.size, o, none⟩ = false := fun o => by rw [hV]; exact World.frozen?_alloc_at _ _ _ _ rfl
  have hbW : Below V.heap.size V W1 := by rw [hW1, ← hV]; exact ((Below.refl _ _).alloc (Nat.le_refl _) _).alloc (by simp) _
  have hC1 : Cols W1 w.heap.size g := hcV.below hbW (by omega)
  have hF1 : ∀ o, W1.frozen? ⟨w.heap.size, o, none⟩ = false := fun o => (hbW.frozen (p := ⟨w.heap.size, o, none⟩) (by show w.heap.size < _; omega)).trans (hfV o)
  have hX1 : W1.cell? ⟨w.heap.size + 1, 0, none⟩ = some (.int .i64 v) := by rw [hW1, ← hV, ← hz]; simp [go_sem]
  have hR1 : ∀ j, j < 4 → W1.cell? ⟨w.heap.size + 1 + 1, j, none⟩ = some (.int .i64 0) := fun j hj => by
    rw [hW1, ← hV, show w.heap.size + 1 + 1 = (V.alloc (.cells #[.int .i64 v] 3)).heap.size by simp [hz]]
    exact Cols.new _ (List.replicate 4 0) _ j 0 (by rw [List.getElem?_replicate, if_pos hj])
  have hQ1 : ∀ o, W1.frozen? ⟨w.heap.size + 1 + 1, o, none⟩ = false := fun o => by
    rw [hW1, ← hV, show w.heap.size + 1 + 1 = (V.alloc (.cells #[.int .i64 v] 3)).heap.size by simp [hz]]
    exact World.frozen?_alloc_at _ _ _ _ rfl
  have hs1 : W1.heap.size = w.heap.size + 3 := by rw [hW1]; simp
  have hB1 : Below w.heap.size w W1 := hbV.trans (hbW.mono hbV.size)
  have C := fill1_any w.heap.size (w.heap.size + 1) first n n g v W1 hC1 hF1 hg hn hb hv hX1 (by omega) (by omega)
  have HC := Lib.hid C
  have HG := Lib.hid hg
  have HR1 := Lib.hid hR1
  have HQ1 := Lib.hid hQ1
  have hp' : (ints g).length = 4 := by rw [ints_len]; exact hg
  have hle : l = (first : Int) + (n : Int) - 1 := by omega
  have i1 : (first : Int) + (n : Int) ≤ 4 := by omega
  clear C hb hg hbV hcV hfV hbW hC1 hF1 hX1 hR1 hQ1 hz hV hl
  subst hle
  have e1 : (first : Int) + (n : Int) - 1 + 1 = (first : Int) + (n : Int) := by omega
  unfold arr
  go_enter Try.func104, Try.ntmps104
  go_wp2_with fail
  rw [← hW1]
  clear hW1
  have hsl := slice3_any w.heap.size first n hn1 hn
  go_wp2_with fail
  rw [hsl]
  go_wp2_with fail
  refine HC.out.mono ?_
  rintro e w2 ⟨rfl, hC2, hF2, hg2⟩
  have hB2 : Below w.heap.size w w2 := hB1.grown hg2 (by omega) (fun j hj => by cases hj; omega)
  have hblk : w2.heap[w.heap.size + 1 + 1]? = W1.heap[w.heap.size + 1 + 1]? := hg2.block _ (by omega) (fun e => by have := Option.some.inj e; omega)
  have hne2 : ∀ j, j < 4 → w2.cell? ⟨w.heap.size + 1 + 1, j, none⟩ = some (.int .i64 0) := fun j hj => by
    have h := HR1.out j hj
    simp only [World.cell?] at h ⊢
    rw [hblk]
    exact h
  have hnf2 : ∀ o, w2.frozen? ⟨w.heap.size + 1 + 1, o, none⟩ = false := fun o => by
    have h := HQ1.out o
    simp only [World.frozen?] at h ⊢
    rw [hblk]
    exact h
  have hlen : (liftF g first n v).length = 4 := by rw [liftF_len]; exact HG.out
  obtain ⟨g0, g1, g2, g3, hg'⟩ := len4 hlen
  rw [hg'] at hC2
  have c0 := hC2 0 g0 rfl
  have c1 := hC2 1 g1 rfl
  have c2 := hC2 2 g2 rfl
  have c3 := hC2 3 g3 rfl
  have r0 := hne2 0 (by omega)
  have r1 := hne2 1 (by omega)
  have r2 := hne2 2 (by omega)
  have r3 := hne2 3 (by omega)
  have f0 := hnf2 0
  have f1 := hnf2 1
  have f2 := hnf2 2
  have f3 := hnf2 3
  have HG' := Lib.hid hg'
  clear hg' hlen hC2 hF2 hg2 hne2 hnf2 hsl hblk
  go_wp2_with fail
  refine bodyPost_ret (v := arr (liftF g first n v)) (by rw [HG'.out]; simp [results, Try.results104, go_sem, arr, ints, r0, r1, r2, r3]) rfl ?_
  refine ⟨rfl, ?_⟩
  have n2 : w.heap.size ≤ w.heap.size + 1 + 1 := by omega
  exact (((hB2.setCell (p := ⟨w.heap.size + 1 + 1, 0, none⟩) n2 _).setCell (p := ⟨w.heap.size + 1 + 1, 1, none⟩) n2 _).setCell (p := ⟨w.heap.size + 1 + 1, 2, none⟩) n2 _).setCell (p := ⟨w.heap.size + 1 + 1, 3, none⟩) n2 _
end Go.Proofs.Ytebnekicbcdnaaa
