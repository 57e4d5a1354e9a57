/- The model's CutOfSides, and lists of numbers as arguments of laws. -/
import Derived.Test.YtbkfenhiaedlgaaDoorFillI
import Derived.Test.YtbkfenhiaedlgaaDoorFillS
import Derived.Test.YtbkfenhiaedlgaaDoorOpen
import Derived.ChangeSlices
set_option linter.all false
namespace Go.Proofs.YtbkfenhiaedlgaaDoor
open Go.RowKit Go.ChangeShapes

theorem fillR_len (W : Int) (d : List Int) : (fillR W d).2.1.length ≤ 1048576 := by
  unfold fillR
  cases runF W.toNat d (st0 W.toNat) with
  | none => simp
  | some st =>
    obtain ⟨f, L⟩ := st
    by_cases hG : Good W (f.headD 0) L
    · simp only
      rw [if_pos hG]
      have := hG.2.2.1.2
      simp only
      omega
    · simp only
      rw [if_neg hG]
      simp

/-- It returns a new list with these numbers. -/
def OwnInts (w w' : World) (L : List Int) (e : Ending) : Prop := ∃ g, e = .returned (.slice (some ⟨g, 0, none⟩) L.length L.length) ∧ Below w.heap.size w w' ∧ w'.ownsRow w.heap.size 3 1 (.slice (some ⟨g, 0, none⟩) L.length L.length) L.length (ints L)
set_option maxRecDepth 100000 in
set_option maxHeartbeats 4000000 in
theorem toIntS_any (A : Option Addr) (n c : Nat) (L : List Int) (w : World) (hl : L.length = n) (hreach : n ≤ 1048576) (hL : IntsAt w w.heap.size A L) :
    Calls Tryd.prog 64 #[.slice A n c] w fun e w' => OwnInts w w' L e := by
  obtain ⟨i0, hi, hz0, hz1, hz2⟩ := info_parts infoInt
  go_enter Tryd.func64, Tryd.ntmps64
  go_wp2_with (at_make; refine wpList_make_full _ rfl _ _ 89 rfl w.heap.size 3 i0 (.int .i64 0) 1 Tryd.underlying89 hi hz0 hz1 .i64 .i64 n n n rfl rfl rfl rfl (by rw [hz2]; omega) (by unfold maxLen; omega) (Nat.le_refl _) ?_; intro w1 hown hgrow)
  have hb1 : Below w.heap.size w w1 := (Below.refl _ w).grown hgrow (Nat.le_refl _) (by simp)
  clear hgrow
  obtain ⟨g, hg⟩ : ∃ g, g = w.heap.size := ⟨_, rfl⟩
  rw [← hg] at hown hb1 ⊢
  have hBg := Lib.hid hg
  clear hg
  go_loopw [4] (fun i wr => ∃ k : Nat, k ≤ n ∧ i = .int .i64 k ∧ ∃ xs, wr.ownsRow g 3 1 (.slice (some ⟨g, 0, none⟩) n n) n xs ∧ xs.take k = ints (L.take k) ∧ Below g w wr) (fun i _ => n - (intOf i).toNat)
  case atStart => exact ⟨0, Nat.zero_le _, rfl, _, hown, by simp [ints], hb1⟩
  case round =>
    obtain ⟨k, hk, rfl, xs, hown1, htake, hbr⟩ := hrel
    have HL := Lib.hid hl
    have HT := Lib.hid htake
    by_cases hlt : k < n
    · clear hl htake hown hb1 w1
      obtain ⟨s, hs⟩ : ∃ s, L[k]? = some s := ⟨_, List.getElem?_eq_getElem (by rw [HL.out]; exact hlt)⟩
      obtain ⟨b, off, rfl, hb, c0⟩ := hL k s hs
      rw [← hBg.out] at hb
      have HS := Lib.hid hs
      clear hs hL
      have c0' := (hbr.cell (p := ⟨b, off + k, none⟩) hb).trans c0
      clear c0
      obtain ⟨v0, e0⟩ := own_some hown1 (j := k) (by omega)
      have f0 := hown1.frozenAt k
      have k0 : (0 : Int) ≤ (k : Int) := by omega
      have k1 : (k : Int) < (n : Int) := by omega
      have R := (hown1.stored k (.int .i64 s)).1
      have hx := hown1.1
      have hBs := hbr.setCell (p := ⟨g, k, none⟩) (Nat.le_refl _) (.int .i64 s)
      go_wp2_with fail
      go_roundw
      case rel =>
        refine ⟨k + 1, by omega, by go_num, _, R, ?_, hBs⟩
        rw [take_set1 _ _ _ (by omega), HT.out, List.take_add_one, HS.out]
        simp [ints]
      case measure => simp [intOf]; omega
    · obtain rfl : k = n := by omega
      have hx := hown1.1
      clear hL hown hb1 hl htake
      go_wp2_with fail
      go_ret
      have ex : xs = ints L := by
        have := HT.out
        rwa [List.take_of_length_le (by omega), List.take_of_length_le (by have := HL.out; omega)] at this
      subst ex
      obtain rfl := HL.out
      have hg := hBg.out
      subst hg
      exact ⟨_, rfl, hbr, hown1⟩

theorem open_nums {H : Type} {enc : TypeId × Value → H} {w : World} {base : Nat} {spare : Nat → Bool} {held : Bool} {fuel : Nat} {v : Value} {x : DataW H × List MemPlace} (h : DataW.trod enc Tryd.prog w base spare held fuel 89 [v] = some x) :
    ∃ (A : Option Addr) (n c : Nat) (L : List Int), v = .slice A n c ∧ n ≤ c ∧ n ≤ 9223372036854775807 ∧ L.length = n ∧ IntsAt w w.heap.size A L ∧ ∀ s ∈ L, wfI s := by
  rcases open_ints Tryd.underlying89 Tryd.underlying3 (by kernel_rfl) h with ⟨h0, _⟩ | ⟨a, len, cap, zs, hcs, _, hl, hm, hz, _, hc, hw⟩
  · cases h0
    exact ⟨none, 0, 0, [], rfl, Nat.le_refl _, by omega, rfl, fun i s hs => by simp at hs, fun s hs => by simp at hs⟩
  · cases hcs
    have hzl : len ≤ zs.length := by rw [hz]; split <;> omega
    refine ⟨some a, len, cap, zs.take len, rfl, hl, by unfold maxLen at hm; omega, by rw [List.length_take]; omega, ?_, fun s hs => wf_of (hw s (List.mem_of_mem_take hs))⟩
    intro i s hs
    rw [List.getElem?_take] at hs
    split at hs
    · have hi := (List.getElem?_eq_some_iff.1 hs).1
      have z := hc 0 (by omega)
      have ha := add_spot (a := a) z
      have c0 := hc i hi
      have hb := World.block_lt_of_cell? _ _ c0
      have hb : a.block < w.heap.size := by rw [ha] at hb; simpa [add_at] using hb
      rw [ha] at c0
      simp only [add_at] at c0
      refine ⟨a.block, a.off, by rw [← ha], hb, ?_⟩
      rw [c0]
      simp [List.getD, hs]
    · cases hs
end Go.Proofs.YtbkfenhiaedlgaaDoor
