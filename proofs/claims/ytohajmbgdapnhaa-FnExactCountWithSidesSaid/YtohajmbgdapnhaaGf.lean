/- Numbers collected, sorted and reversed: the program's greatestFirst. -/
import Derived.Test.YtohajmbgdapnhaaLsA
import Derived.Test.YtohajmbgdapnhaaShelf
import Derived.Sort.OwnSortedInts
import Derived.Maps.AppendAt
import Derived.Shelf.RegionOpen
set_option linter.all false
namespace Go.Proofs.Ytohajmbgdapnhaa
open Go.RowKit Go.Shelf Go.Sort
attribute [local go_sem] Oper.semAt_some

/-- It returns a list of its own with these numbers. -/
def RetNs (w : World) (R : List Int) (e : Ending) (w' : World) : Prop := ∃ A c, e = .returned (.slice A R.length c) ∧ w'.ownsRow w.heap.size 3 1 (.slice A R.length c) R.length (ints R) ∧ Below w.heap.size w w'
theorem ints_snoc (L : List Int) (x : Int) : ints (L ++ [x]) = ints L ++ [.int .i64 x] := by simp [ints]
set_option maxRecDepth 100000 in
set_option maxHeartbeats 2000000 in
theorem appI_any (Bs len cap : Nat) (A : Option Addr) (L : List Int) (w : World) (hlen : L.length = len) (hreach : len ≤ 1000) (hBs : w.cell? ⟨Bs, 0, none⟩ = some (.slice A len cap)) (hL : IntsAt w w.heap.size A L) :
    Calls Try.prog 163 #[.slice none 0 0, .func (.func 151) #[] #[.pointer (some ⟨Bs, 0, none⟩)]] w (RetNs w L) := by
  obtain ⟨W2, hW2⟩ : ∃ W2, W2 = w.alloc (.cells #[.slice none 0 0] 44) := ⟨_, rfl⟩
  have hz2 : W2.heap.size = w.heap.size + 1 := by rw [hW2]; simp
  have hB2 : Below w.heap.size w W2 := by rw [hW2]; exact (Below.refl _ _).alloc (Nat.le_refl _) _
  have hX2 : Boxed W2 w.heap.size 44 (.slice none 0 0) := by rw [hW2]; exact Boxed.new _ _ _
  have hc2 := (hB2.cell (p := ⟨Bs, 0, none⟩) (World.block_lt_of_cell? _ _ hBs)).trans hBs
  obtain ⟨i0, hi, hz0, hz1, hz3⟩ := info_parts infoInt
  refine (callsIn_wide (n := 5)).1 ?_
  refine callsIn_of_wp_marks Try.func163 rfl trivial ?_ rfl
  simp only [Try.ntmps163, List.size_toArray, List.length_cons, List.length_nil, Nat.reduceAdd, Nat.reduceSub, Array.replicate_succ, Array.replicate_zero, List.push_toArray, List.append_toArray, List.nil_append, List.cons_append]
  gi_wp2
  rw [← hW2]
  clear hW2
  refine wpIn_rangeFunc_ownG rfl (by decide) (gf := 151) (lb := #[.pointer (some ⟨Bs, 0, none⟩)]) rfl trivial (enters_of Try.func151 (by kernel_rfl) rfl)
    (valuesI_stops _ (by decide) Bs len cap A L hlen hreach W2 w hB2 hc2 hL) Below.trans (belowK_b hB2.size) (Below.refl _ _) (fun _ => rfl)
    (fun pre W => (∃ v, Boxed W w.heap.size 44 v ∧ W.ownsRow w.heap.size 3 1 v pre.length (ints pre) ∧ True) ∧ Below w.heap.size w W) (fun _ _ _ => False)
    (OwnFrom.and (Own.from (holdsRow_own w.heap.size w.heap.size 44 3 1 (fun pre : List Int => pre.length) (fun pre => ints pre) (fun _ _ => True)) _) (ownFrom_below (Nat.le_refl _) (by omega)))
    (fun _ _ _ _ _ hs _ _ => hs) ⟨⟨_, hX2, World.ownsRow_nil _ _ _ _, trivial⟩, hB2⟩
    (fun x => { tmps := #[.slice none 0 0, .func (.func 151) #[] #[.pointer (some ⟨Bs, 0, none⟩)], .pointer (some ⟨w.heap.size, 0, none⟩), undef, .slice none 0 0, .int .i64 x, .func (.func 151) #[] #[.pointer (some ⟨Bs, 0, none⟩)], .int .i64 x, undef, undef, undef, undef, undef], defers := [] }) ?assign ?body ?done ?stop
  case assign =>
    intro l x W K hK
    gi_wp2
    exact hK
  case body =>
    rintro l pre x W ⟨⟨v, hv, hrow, _⟩, hB⟩ hpl
    have hvc := hv.cell
    have hle : w.heap.size ≤ w.heap.size := Nat.le_refl _
    have hb1 : pre.length + 1 ≤ maxLen := by unfold maxLen; omega
    have hb2' : (pre.length + 1) * 8 ≤ 140737488355328 := by omega
    clear hlen hL hBs hc2 hX2 hB2
    gi_wp2_with (gi_at_builtin; refine wpListIn_append_own _ rfl _ _ 44 rfl w.heap.size 3 i0 (.int .i64 0) 1 8 Try.underlying44 hi hz0 hz1 hz3 rfl (by decide) _ _ _ rfl (hrow.alloc _) ⟨W.heap.size, 0, none⟩ 1 1 [.int .i64 x] rfl rfl (cell_one_new _ _ _) (by simp [Value.oneCell']) hb1 hb2' (by have := hB.size; simp; omega) ?_; intro v' w1 hown' hgrow _; obtain ⟨g', cap', rfl⟩ := ownsRow_succ hown'; obtain ⟨hv1, hv2, hr2, hk2, hb2⟩ := hv.appended (by decide) hrow hB.size hle hown' hgrow; have hc1 := hv1.cell; have hf1 := hv1.frozen)
    refine ⟨hk2.from _, hb2, ⟨_, hv2, ?_, trivial⟩, hB.trans hb2⟩
    rw [ints_snoc, List.length_append]
    exact hr2
  case done =>
    rintro D ys W hD rfl ⟨⟨v, hv, hrow, _⟩, hB⟩ hK
    have hvc := hv.cell
    clear hlen hL hBs hc2 hX2 hB2
    gi_wp2
    refine ⟨by simp, .inl ⟨_, _, rfl, run_takeDeferred hK, ?_⟩⟩
    have hr := ownsRow_putObj hrow (.deferred none) hK rfl
    obtain ⟨A', c', rfl⟩ := own_val hr
    exact ⟨_, results_tmp rfl _ _ _, _, _, rfl, hr, hB.trans (belowK_b (w := w) (Nat.le_refl _) W D _ _ (by omega) hK rfl rfl)⟩
  case stop =>
    intro D c pre W _ _ h
    exact h.elim
set_option maxHeartbeats 1000000 in
theorem sortI_own (A : Option Addr) (n c base : Nat) (L : List Int) (w : World) (hl : L.length = n) (hn : n ≤ 1048576) (ho : w.ownsRow base 3 1 (.slice A n c) n (ints L)) :
    Calls Try.prog 150 #[.slice A n c] w fun e w' => e = .returned (.tuple #[]) ∧ w'.ownsRow base 3 1 (.slice A n c) n (ints (L.mergeSort fun x y => decide (x ≤ y))) ∧ Below base w w' := by
  subst hl
  rcases ho.2 with ⟨hv, h0⟩ | ⟨g, cap, cur, hv, hbase, hh, h1, h2, h3, h4⟩
  · simp only [Value.slice.injEq] at hv
    obtain ⟨rfl, _, rfl⟩ := hv
    have hL : L = [] := List.eq_nil_of_length_eq_zero h0
    subst hL
    refine (show Calls Try.prog 150 _ w _ from Try.slices_Sort_int_none none 0 w).mono ?_
    rintro e w' ⟨rfl, rfl⟩
    exact ⟨rfl, by simpa using ho, Below.refl _ _⟩
  · cases hv
    have hH : Holds (Value.int .i64) w g 0 L.toArray := holds_of_blockI hh (by rw [Nat.mul_one] at h4; exact h4)
    have hgl := (Array.getElem?_eq_some_iff.1 hh).1
    refine (show Calls Try.prog 150 _ w _ from Try.slices_Sort_int g 0 c L w hH hgl (by omega)).mono ?_
    rintro e w' ⟨rfl, nn, os, rfl⟩
    
    exact ⟨rfl, ownsRow_sortedI (ss := L) (by simp) hbase hh h1 h2 h3, (Below.refl base w).grown (grownBy_sortedI _) (by omega) (fun k e => by cases e; exact hbase)⟩
set_option maxHeartbeats 1000000 in
theorem revI_own (A : Option Addr) (n c base : Nat) (L : List Int) (w : World) (hl : L.length = n) (hn : n ≤ 1048576) (ho : w.ownsRow base 3 1 (.slice A n c) n (ints L)) :
    Calls Try.prog 122 #[.slice A n c] w fun e w' => e = .returned (.tuple #[]) ∧ w'.ownsRow base 3 1 (.slice A n c) n (ints (L.reverse)) ∧ Below base w w' := by
  subst hl
  rcases ho.2 with ⟨hv, h0⟩ | ⟨g, cap, cur, hv, hbase, hh, h1, h2, h3, h4⟩
  · simp only [Value.slice.injEq] at hv
    obtain ⟨rfl, _, rfl⟩ := hv
    have hL : L = [] := List.eq_nil_of_length_eq_zero h0
    subst hL
    refine (show Calls Try.prog 122 _ w _ from Try.slices_Reverse_int_empty none 0 w).mono ?_
    rintro e w' ⟨rfl, rfl⟩
    exact ⟨rfl, by simpa using ho, Below.refl _ _⟩
  · cases hv
    have hH : Holds (Value.int .i64) w g 0 L.toArray := holds_of_blockI hh (by rw [Nat.mul_one] at h4; exact h4)
    have hgl := (Array.getElem?_eq_some_iff.1 hh).1
    refine (show Calls Try.prog 122 _ w _ from Try.slices_Reverse_int g 0 c L w hH (by omega)).mono ?_
    rintro e w' ⟨rfl, nn, rfl⟩
    rw [← grow_empty (putRow _ _ _ _ _)]
    exact ⟨rfl, ownsRow_sortedI (ss := L) (by simp) hbase hh h1 h2 h3, (Below.refl base w).grown (grownBy_sortedI _) (by omega) (fun k e => by cases e; exact hbase)⟩
def dsc (L : List Int) : List Int := (L.mergeSort fun x y => decide (x ≤ y)).reverse
theorem dsc_len (L : List Int) : (dsc L).length = L.length := by simp [dsc]
set_option maxRecDepth 100000 in
set_option maxHeartbeats 2000000 in
theorem collI_any (Bs len cap : Nat) (A : Option Addr) (L : List Int) (w : World) (hlen : L.length = len) (hreach : len ≤ 1000) (hBs : w.cell? ⟨Bs, 0, none⟩ = some (.slice A len cap)) (hL : IntsAt w w.heap.size A L) :
    Calls Try.prog 149 #[.func (.func 151) #[] #[.pointer (some ⟨Bs, 0, none⟩)]] w (RetNs w L) := by
  subst hlen
  have C := Lib.hid (appI_any Bs L.length cap A L w rfl hreach hBs hL)
  clear hL hBs
  go_enter Try.func149, Try.ntmps149
  go_wp2_with fail
  refine C.out.mono ?_
  rintro e w2 ⟨A2, c2, rfl, ho2, hb2⟩
  go_wp2_with fail
  go_ret
  exact ⟨A2, c2, rfl, ho2, hb2⟩
set_option maxRecDepth 100000 in
set_option maxHeartbeats 2000000 in
theorem sortedI_any (Bs len cap : Nat) (A : Option Addr) (L : List Int) (w : World) (hlen : L.length = len) (hreach : len ≤ 1000) (hBs : w.cell? ⟨Bs, 0, none⟩ = some (.slice A len cap)) (hL : IntsAt w w.heap.size A L) :
    Calls Try.prog 120 #[.func (.func 151) #[] #[.pointer (some ⟨Bs, 0, none⟩)]] w (RetNs w (L.mergeSort fun x y => decide (x ≤ y))) := by
  subst hlen
  have C := Lib.hid (collI_any Bs L.length cap A L w rfl hreach hBs hL)
  clear hL hBs
  go_enter Try.func120, Try.ntmps120
  go_wp2_with fail
  refine C.out.mono ?_
  rintro e w2 ⟨A2, c2, rfl, ho2, hb2⟩
  go_wp2_with fail
  refine (sortI_own A2 L.length c2 w.heap.size L w2 rfl (by omega) ho2).mono ?_
  rintro e w3 ⟨rfl, ho3, hb3⟩
  go_wp2_with fail
  go_ret
  have hll : (L.mergeSort fun x y => decide (x ≤ y)).length = L.length := List.length_mergeSort _
  unfold RetNs
  rw [hll]
  exact ⟨A2, c2, rfl, ho3, hb2.trans hb3⟩
set_option maxRecDepth 100000 in
set_option maxHeartbeats 2000000 in
theorem gfirst_any (A : Option Addr) (n c : Nat) (L : List Int) (w : World) (hl : L.length = n) (hn : n ≤ 1000) (hL : IntsAt w w.heap.size A L) :
    Calls Try.prog 74 #[.slice A n c] w (RetNs w (dsc L)) := by
  obtain ⟨w1, hw1⟩ : ∃ w1, w1 = w.alloc (.cells #[.slice A n c] 44) := ⟨_, rfl⟩
  have hb1 : Below w.heap.size w w1 := by rw [hw1]; exact (Below.refl _ _).alloc (Nat.le_refl _) _
  have c1 : w1.cell? ⟨w.heap.size, 0, none⟩ = some (.slice A n c) := by rw [hw1]; simp [go_sem]
  have C0 := sortedI_any w.heap.size n c A L w1 hl hn c1 ((hL.below hb1).mono hb1.size)
  have hll : (L.mergeSort fun x y => decide (x ≤ y)).length = n := by rw [List.length_mergeSort]; exact hl
  have hd : dsc L = (L.mergeSort fun x y => decide (x ≤ y)).reverse := rfl
  obtain ⟨M, hM⟩ : ∃ M, (L.mergeSort fun x y => decide (x ≤ y)) = M := ⟨_, rfl⟩
  rw [hM] at hll hd C0
  rw [hd]
  clear hM hd hl
  have hn' := Lib.hid hn
  have hl' := Lib.hid hll
  have C := Lib.hid C0
  clear C0 hll hn
  clear hL c1
  go_enter Try.func74, Try.ntmps74
  go_wp2_with fail
  refine (valuesI_any _ _ _ _).mono ?_
  rintro e w2 ⟨rfl, hw2⟩
  rw [← hw1] at hw2
  subst hw2
  clear hw1
  go_wp2_with fail
  refine C.out.mono ?_
  rintro e w3 ⟨A3, c3, rfl, ho3, hb3⟩
  have hB3 := hb1.trans (hb3.mono hb1.size)
  go_wp2_with fail
  refine (revI_own A3 M.length c3 w2.heap.size M w3 rfl (by have := hl'.out; have := hn'.out; omega) ho3).mono ?_
  rintro e w4 ⟨rfl, ho4, hb4⟩
  go_wp2_with fail
  go_ret
  have e1 : M.reverse.length = M.length := List.length_reverse
  unfold RetNs
  rw [e1]
  exact ⟨A3, c3, rfl, own_base ho4 hb1.size, hB3.trans (hb4.mono hb1.size)⟩
end Go.Proofs.Ytohajmbgdapnhaa
