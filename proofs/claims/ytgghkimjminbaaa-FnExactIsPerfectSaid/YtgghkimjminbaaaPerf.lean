/- Contracts of IsPerfect, the program's and the model's. -/
import Derived.Test.YtgghkimjminbaaaSides
import Derived.Test.YtgghkimjminbaaaShelf
import Derived.Sort.OwnSortedInts
import Derived.Deep.RegionHeld3
set_option linter.all false
namespace Go.Proofs.Ytgghkimjminbaaa
open Go.RowKit

def PerfP (L : List Sq) : Prop := ∀ (i j : Nat) (s t : Sq), i < j → L[i]? = some s → L[j]? = some t → t.d ≠ s.d
/-- The answer of IsPerfect. -/
def RetPerf (w : World) (W H : Int) (L : List Sq) (e : Ending) (w' : World) : Prop :=
  e = .returned (.tuple #[.bool (dc (Good W H L ∧ PerfP L)), .bool (dc (Good W H L))]) ∧ Below w.heap.size w w'
theorem RetPerf.yes {w w' : World} {W H : Int} {L : List Sq} (hG : Good W H L) (hp : PerfP L) (hb : Below w.heap.size w w') : RetPerf w W H L (.returned (.tuple #[.bool true, .bool true])) w' := by
  refine ⟨?_, hb⟩; rw [dc_true (And.intro hG hp), dc_true hG]
theorem RetPerf.no {w w' : World} {W H : Int} {L : List Sq} (hG : Good W H L) (hp : ¬ PerfP L) (hb : Below w.heap.size w w') : RetPerf w W H L (.returned (.tuple #[.bool false, .bool true])) w' := by
  refine ⟨?_, hb⟩; rw [dc_false (fun h => hp h.2), dc_true hG]
theorem RetPerf.of {w w' : World} {W H : Int} {L : List Sq} {b : Bool} (hG : Good W H L) (hp : b = true ↔ PerfP L) (hb : Below w.heap.size w w') : RetPerf w W H L (.returned (.tuple #[.bool b, .bool true])) w' := by
  by_cases h : PerfP L
  · rw [hp.2 h]; exact RetPerf.yes hG h hb
  · rw [Bool.eq_false_iff.2 (fun e => h (hp.1 e))]; exact RetPerf.no hG h hb
theorem RetPerf.bad {w w' : World} {W H : Int} {L : List Sq} (hG : ¬ Good W H L) (hb : Below w.heap.size w w') : RetPerf w W H L (.returned (.tuple #[.bool false, .bool false])) w' := by
  refine ⟨?_, hb⟩; rw [dc_false (fun h => hG h.1), dc_false hG]

theorem sides_get (L : List Sq) (i : Nat) : (sides L)[i]? = (L[i]?).map (·.d) := by simp [sides]
theorem nodup_get (T : List Int) : T.Nodup ↔ ∀ (i j : Nat) (a b : Int), i < j → T[i]? = some a → T[j]? = some b → a ≠ b := by
  unfold List.Nodup
  rw [List.pairwise_iff_getElem]
  constructor
  · intro h i j a b hij ha hb
    obtain ⟨hi, rfl⟩ := List.getElem?_eq_some_iff.1 ha
    obtain ⟨hj, rfl⟩ := List.getElem?_eq_some_iff.1 hb
    exact h i j hi hj hij
  · intro h i j hi hj hij
    exact h i j _ _ hij (List.getElem?_eq_getElem hi) (List.getElem?_eq_getElem hj)
theorem perf_nodup (L : List Sq) : PerfP L ↔ (sides L).Nodup := by
  rw [nodup_get]
  constructor
  · intro h i j a b hij ha hb
    rw [sides_get] at ha hb
    obtain ⟨s, hs, rfl⟩ := Option.map_eq_some_iff.1 ha
    obtain ⟨t, ht, rfl⟩ := Option.map_eq_some_iff.1 hb
    exact fun e => h i j s t hij hs ht e.symm
  · intro h i j s t hij hs ht e
    exact h i j s.d t.d hij (by rw [sides_get, hs]; rfl) (by rw [sides_get, ht]; rfl) e.symm

theorem compact_len (T : List Int) (hs : T.Pairwise (· ≤ ·)) : (Lib.compact T).length = T.length ↔ T.Nodup := by
  constructor
  · intro h
    have hk : ∀ j, j < T.length → Lib.keeps T.toArray j = true := by
      unfold Lib.compact Lib.compactUpTo at h
      rw [List.length_map] at h
      have h2 : ((List.range T.length).filter (Lib.keeps T.toArray)).length = (List.range T.length).length := by rw [h]; simp
      have h3 := List.length_filter_eq_length_iff.1 h2
      intro j hj
      exact h3 j (List.mem_range.2 hj)
    have hlt : T.Pairwise (· < ·) := by
      rw [List.pairwise_iff_getElem] at hs ⊢
      intro i j hi hj hij
      have key : ∀ d i (hi : i < T.length) (hj : i + 1 + d < T.length), T[i] < T[i + 1 + d] := by
        intro d
        induction d with
        | zero =>
          intro i hi hj
          have h1 := hk (i + 1) hj
          have h2 := hs i (i + 1) hi hj (by omega)
          simp only [Lib.keeps, decide_eq_true_eq] at h1
          rcases h1 with h1 | h1
          · omega
          · simp only [Nat.add_sub_cancel] at h1
            rw [getElem!_pos _ _ (by simpa using hj), getElem!_pos _ _ (by simpa using hi)] at h1
            simp only [List.getElem_toArray] at h1
            have : T[i] ≠ T[i + 1] := fun e => h1 e.symm
            simp only [Nat.add_zero]
            omega
        | succ d ih =>
          intro i hi hj
          have h1 := ih i hi (by omega)
          have h2 := hs (i + 1 + d) (i + 1 + (d + 1)) (by omega) hj (by omega)
          omega
      obtain ⟨d, rfl⟩ : ∃ d, j = i + 1 + d := ⟨j - (i + 1), by omega⟩
      exact key d i hi hj
    exact hlt.imp (fun h => Int.ne_of_lt h)
  · intro h
    rw [Lib.compact_all]
    intro j hj
    cases j with
    | zero => simp [Lib.keeps]
    | succ j =>
      refine Lib.keeps_pos ?_
      simp only [Nat.add_sub_cancel]
      rw [getElem!_pos _ _ (by simpa using hj), getElem!_pos _ _ (by simp; omega)]
      simp only [List.getElem_toArray]
      intro e
      rw [nodup_get] at h
      exact h j (j + 1) _ _ (by omega) (List.getElem?_eq_getElem (by omega)) (List.getElem?_eq_getElem hj) e.symm

set_option maxRecDepth 100000 in
set_option maxHeartbeats 2000000 in
theorem specPerf_any (W H : Int) (A : Option Addr) (n c : Nat) (L : List Sq) (w : World) (hl : L.length = n) (hc : n ≤ c) (hL : SqsAt w w.heap.size A L) :
    Calls Try.prog 19 #[.agg #[.int .i64 W, .int .i64 H, .slice A n c]] w (RetPerf w W H L) := by
  subst hl
  have hb0 : ∀ o : Obj, Below w.heap.size w (w.alloc o) := fun o => (Below.refl _ _).alloc (Nat.le_refl _) o
  have Z0 : Box w.heap.size w (w.alloc (.cells #[.int .i64 W, .int .i64 H, .slice A L.length c] 24)) W H A c L := Box.start hL
  by_cases hG : Good W H L
  · have hg30 := hG.2.2.1.2
    have HG := Lib.hid hG
    go_enter Try.func19, Try.ntmps19
    go_wp2_with fail
    refine (callB_yes (cuGood_any W H A _ c L _ rfl hc ((hL.below (hb0 _)).mono (hb0 _).size)) hG).mono ?_
    rintro e w1 ⟨rfl, hb1⟩
    have Z1 := Z0.next hb1
    obtain ⟨hB1, hz1', b0, b1, b2, hL1⟩ := id Z1
    clear Z0 hb1 hb0 hG
    go_wp2_with fail
    clear b0 b1 b2 hL1 hB1 hz1'
    go_loopw [14] (fun i wr => ∃ k : Nat, k ≤ L.length ∧ i = .int .i64 k ∧ Box w.heap.size w wr W H A c L ∧ (∀ (i j : Nat) (s t : Sq), i < j → j < k → L[i]? = some s → L[j]? = some t → t.d ≠ s.d)) (fun i _ => L.length - (intOf i).toNat)
    case atStart => exact ⟨0, Nat.zero_le _, rfl, Z1, fun i j s t _ h => by omega⟩
    case round =>
      obtain ⟨k, hk, rfl, Zr, hdone⟩ := hrel
      obtain ⟨hbr, hzr, b0, b1, b2, hLr⟩ := id Zr
      have HD := Lib.hid hdone
      clear hdone Z1
      by_cases hlt : k < L.length
      · obtain ⟨q, hq⟩ : ∃ s, L[k]? = some s := ⟨_, List.getElem?_eq_getElem hlt⟩
        obtain ⟨b, off, rfl, hb, c0, c1, c2⟩ := hLr k q hq
        have HQ := Lib.hid hq
        clear hq hLr hL
        go_wp2_with fail
        obtain ⟨wo, rfl⟩ : ∃ wo : World, wo = wr := ⟨_, rfl⟩
        obtain ⟨W1, hW1⟩ : ∃ W1, W1 = wo.alloc (.cells #[.int .i64 q.x, .int .i64 q.y, .int .i64 q.d] 39) := ⟨_, rfl⟩
        have hB2 : Below wo.heap.size wo W1 := by rw [hW1]; exact (Below.refl _ _).alloc (Nat.le_refl _) _
        have hsz : wo.heap.size < W1.heap.size := by rw [hW1]; simp
        have S2 : W1.cell? ⟨wo.heap.size, 2, none⟩ = some (.int .i64 q.d) := by rw [hW1]; simp
        have Zw := Zr.next hB2
        rw [← hW1]
        clear hW1 c0 c1 c2 b0 b1 b2 Zr hbr
        go_loopw [24] (fun i wi => ∃ m : Nat, m ≤ k ∧ i = .int .i64 m ∧ Below (wo.heap.size + 1) W1 wi ∧ (∀ (i : Nat) (s : Sq), i < m → L[i]? = some s → q.d ≠ s.d)) (fun i _ => k - (intOf i).toNat)
        case atStart => exact ⟨0, Nat.zero_le _, rfl, Below.refl _ _, fun i s h => by omega⟩
        case round =>
          obtain ⟨m, hm, rfl, hbi, hin⟩ := hrel
          have HI := Lib.hid hin
          clear hin
          have Zi := Zw.keep hbi (by omega) hbi.size
          obtain ⟨hbr, hzr', b0, b1, b2, hLi⟩ := id Zi
          have hZ : wo.heap.size < wr.heap.size := by have := hbi.size; omega
          have F2 := (hbi.cell (p := ⟨wo.heap.size, 2, none⟩) (Nat.lt_succ_self _)).trans S2
          by_cases hmk : m < k
          · obtain ⟨p, hp⟩ : ∃ s, L[m]? = some s := ⟨_, List.getElem?_eq_getElem (by omega)⟩
            obtain ⟨b', off', he, hb', c0, c1, c2⟩ := hLi m p hp
            simp only [Option.some.injEq, Addr.mk.injEq] at he
            obtain ⟨rfl, rfl, _⟩ := he
            have HP := Lib.hid hp
            clear hp hLi
            by_cases hd : q.d = p.d
            · have hd1 : (q.d == p.d) = true := by simpa using hd
              have HDD := Lib.hid hd
              clear hd
              go_wp2_with fail
              go_ret2
              exact RetPerf.no HG.out (fun h => h m k p q hmk HP.out HQ.out HDD.out) (hbr.alloc (by omega) _)
            · have hd1 : (q.d == p.d) = false := by simpa using hd
              have hB3 : Below (wo.heap.size + 1) W1 (wr.alloc (.cells #[.int .i64 p.x, .int .i64 p.y, .int .i64 p.d] 39)) := hbi.alloc (by omega) _
              have step : ∀ (i : Nat) (s : Sq), i < m + 1 → L[i]? = some s → q.d ≠ s.d := by
                intro i s hi hs
                by_cases e : i = m
                · subst e
                  obtain rfl := Option.some.inj (HP.out.symm.trans hs)
                  exact hd
                · exact HI.out i s (by omega) hs
              have Step := Lib.hid step
              clear step hd
              go_wp2_with fail
              go_roundw
              case rel => exact ⟨m + 1, by omega, by go_num, hB3, Step.out⟩
              case measure => simp [intOf]; omega
          · obtain rfl : k = m := by omega
            go_wp2_with fail
            go_roundw
            case rel =>
              refine ⟨k + 1, by omega, by go_num, Zi, ?_⟩
              intro i j s t hij hj hs ht
              by_cases e : j = k
              · subst e
                obtain rfl := Option.some.inj (HQ.out.symm.trans ht)
                exact HI.out i s hij hs
              · exact HD.out i j s t hij (by omega) hs ht
            case measure => simp [intOf]; omega
      · obtain rfl : k = L.length := by omega
        go_wp2_with fail
        go_ret2
        exact RetPerf.yes HG.out (fun i j s t hij hs ht => HD.out i j s t hij (List.getElem?_eq_some_iff.1 ht).1 hs ht) hbr
  · go_enter Try.func19, Try.ntmps19
    go_wp2_with fail
    refine (callB_no (cuGood_any W H A _ c L _ rfl hc ((hL.below (hb0 _)).mono (hb0 _).size)) hG).mono ?_
    rintro e w1 ⟨rfl, hb1⟩
    go_wp2_with fail
    go_ret2
    exact RetPerf.bad hG ((hb0 _).trans (hb1.mono (hb0 _).size))

theorem nodup_sort (S : List Int) : (S.mergeSort fun x y => decide (x ≤ y)).Nodup ↔ S.Nodup := (List.mergeSort_perm S _).nodup_iff
theorem sort_sorted (S : List Int) : (S.mergeSort fun x y => decide (x ≤ y)).Pairwise (· ≤ ·) := by
  have := List.pairwise_mergeSort (le := fun (x y : Int) => decide (x ≤ y)) (fun a b c h1 h2 => by simp at *; omega) (fun a b => by simp; omega) S
  exact this.imp (fun h => by simpa using h)

theorem compact_own (g cap : Nat) (T : List Int) (n : Nat) (w : World) (hn : n = T.length) (hH : Sort.Holds (Value.int .i64) w g 0 T.toArray) (hc : T.length ≤ cap) (h30 : T.length ≤ 30) :
    Calls Try.prog 64 #[.slice (some ⟨g, 0, none⟩) n cap] w fun e w' => ∃ m, m = (Lib.compact T).length ∧ e = .returned (.slice (some ⟨g, 0, none⟩) m cap) ∧ w.grownBy w' (some g) := by
  subst hn
  refine (Try.slices_Compact_int g 0 cap T w hH (by omega) hc).mono ?_
  rintro e w' ⟨rfl, q, rfl⟩
  refine ⟨_, rfl, rfl, ?_⟩
  have := grownBy_sortedI (w := w) (g := g) (n := q) (os := #[]) (Lib.compact T ++ List.replicate (T.length - (Lib.compact T).length) 0).toArray
  simpa using this
theorem keepC {B g : Nat} {w2 wp w' : World} {v : Value} (hg : B + 1 ≤ g) (hne : B ≠ g) (hS : Below (B + 1) w2 wp ∧ wp.cell? ⟨B, 2, none⟩ = some v ∧ B + 1 ≤ wp.heap.size) (h : wp.grownBy w' (some g)) : Below (B + 1) w2 w' ∧ w'.cell? ⟨B, 2, none⟩ = some v ∧ B + 1 ≤ w'.heap.size :=
  ⟨hS.1.grown h hS.2.2 (fun k hk => by cases hk; exact hg), h.cell hS.2.1 (fun e => hne (Option.some.inj e)), Nat.le_trans hS.2.2 h.size⟩

set_option maxRecDepth 100000 in
set_option maxHeartbeats 2000000 in
theorem implPerf_any (W H : Int) (A : Option Addr) (n c : Nat) (L : List Sq) (w : World) (hl : L.length = n) (hc : n ≤ c) (hL : SqsAt w w.heap.size A L) (hwf : ∀ s ∈ L, wfS s) :
    Calls Try.prog 18 #[.agg #[.int .i64 W, .int .i64 H, .slice A n c]] w (RetPerf w W H L) := by
  subst hl
  have hb0 : ∀ o : Obj, Below w.heap.size w (w.alloc o) := fun o => (Below.refl _ _).alloc (Nat.le_refl _) o
  have Z0 : Box w.heap.size w (w.alloc (.cells #[.int .i64 W, .int .i64 H, .slice A L.length c] 24)) W H A c L := Box.start hL
  by_cases hG : Good W H L
  · have HG := Lib.hid hG
    have hg30 := hG.2.2.1.2
    have hg1 := hG.2.2.1.1
    go_enter Try.func18, Try.ntmps18
    go_wp2_with fail
    refine (implSides_any W H A _ c L _ rfl hc ((hL.below (hb0 _)).mono (hb0 _).size) hwf).mono ?_
    rintro e w1 hret
    rw [ifGood_yes hG, dc_true hG] at hret
    obtain ⟨Ag, cg, rfl, og, hb1⟩ := hret
    have hlen := Lib.hid (sides_len L)
    have Z1 := Z0.next hb1
    clear Z0 hb1 hb0 hG
    obtain ⟨S, hS⟩ : ∃ S, sides L = S := ⟨_, rfl⟩
    have HS := Lib.hid hS
    rw [hS] at og ⊢
    have hSl : S.length = L.length := by rw [← HS.out]; exact hlen.out
    have HSl := Lib.hid hSl
    have hS1 : 1 ≤ S.length := by omega
    have hS30 : S.length ≤ 30 := by omega
    clear hS hSl
    obtain ⟨hB1, hz1, b0, b1, b2, hL1⟩ := id Z1
    rcases og.2 with ⟨_, h0⟩ | ⟨g, cap, cur, he, hbase, hh, h1, h2, h3, h4⟩
    · omega
    cases he
    have hHolds : Sort.Holds (Value.int .i64) w1 g 0 S.toArray := holds_of_blockI hh (by simpa [ints] using h4)
    go_wp2_with fail
    refine (Try.slices_Sort_int g 0 cg S w1 hHolds (Array.getElem?_eq_some_iff.1 hh).1 (by omega)).mono ?_
    rintro e w2 ⟨rfl, nn, os, rfl⟩
    obtain ⟨T, hT⟩ : ∃ T, (S.mergeSort fun x y => decide (x ≤ y)) = T := ⟨_, rfl⟩
    have hTn := Lib.hid (show T.Nodup ↔ PerfP L by rw [← hT, nodup_sort, perf_nodup, HS.out])
    have hTs : T.Pairwise (· ≤ ·) := by rw [← hT]; exact sort_sorted S
    have hTl : T.length = S.length := by rw [← hT]; exact (List.mergeSort_perm S _).length_eq
    obtain ⟨w2, hw2⟩ : ∃ w2, w2 = Sort.grow (Sort.putRow (Value.int .i64) (Sort.ahead w1 nn) g 0 T.toArray) os := ⟨_, rfl⟩
    have hbase' : w.heap.size + 1 ≤ g := by simpa using hbase
    have og2 : w2.ownsRow (w.heap.size + 1) 3 1 (.slice (some ⟨g, 0, none⟩) S.length cg) S.length (T.map (Value.int .i64)) := by rw [hw2]; exact ownsRow_sortedI hTl hbase' hh h1 h2 h3
    have hgr : w1.grownBy w2 (some g) := by rw [hw2]; exact grownBy_sortedI _
    have Z2 := Z1.keep (below_of_grown hgr (by omega) (fun k hk => by cases hk; exact hbase')) (Nat.lt_succ_self _) hgr.size
    rw [hT, ← hw2]
    obtain ⟨hB2, hz2, b0', b1', b2', hL2⟩ := id Z2
    have hH2 : Sort.Holds (Value.int .i64) w2 g 0 T.toArray := by
      rcases og2.2 with ⟨h0, _⟩ | ⟨g', cap', cur', he', _, hh', _, _, _, h4'⟩
      · cases h0
      · cases he'
        refine holds_of_blockI hh' ?_
        rw [hTl]; simpa using h4'
    have HTl := Lib.hid hTl
    have HTs := Lib.hid hTs
    have hne : w.heap.size ≠ g := by omega
    have hnn : T.length ≤ cg := by rw [hTl]; exact h1
    have hn30 : T.length ≤ 30 := by rw [hTl]; exact hS30
    clear hw2 hT hTl hTs og og2 hh h4 hHolds hgr Z1 b0 b1 b2 hL1 hB1 hz1
    go_wp2_with fail
    go_region_held3 (fun w' => Below (w.heap.size + 1) w2 w' ∧ w'.cell? ⟨w.heap.size, 2, none⟩ = some (.slice A L.length c) ∧ w.heap.size + 1 ≤ w'.heap.size)
      (first | exact ⟨(Below.refl _ _).drew, b2', hz2⟩ | exact keepC hbase' hne (by assumption) (by assumption))
      ((go_at_call 64; refine (compact_own g cg T S.length _ HTl.out.symm (by exact hH2) hnn hn30).mono ?_; rintro e w3 ⟨m, hm, rfl, hgr3⟩))
    go_wp2_with fail
    go_ret2
    obtain ⟨hh1, hh2, hh3⟩ := ‹Below (w.heap.size + 1) w2 w3 ∧ _›
    refine RetPerf.of (b := ((Lib.compact T).length : Int) == (L.length : Int)) HG.out ?_ (hB2.trans (hh1.mono (Nat.le_succ _)))
    rw [beq_iff_eq, Int.ofNat_inj, ← hTn.out, ← compact_len T HTs.out, HTl.out, HSl.out]
  · go_enter Try.func18, Try.ntmps18
    go_wp2_with fail
    refine (implSides_any W H A _ c L _ rfl hc ((hL.below (hb0 _)).mono (hb0 _).size) hwf).mono ?_
    rintro e w1 hret
    rw [ifGood_no hG, dc_false hG] at hret
    obtain ⟨Ag, cg, rfl, og, hb1⟩ := hret
    go_wp2_with fail
    go_ret2
    exact RetPerf.bad hG ((hb0 _).trans (hb1.mono (hb0 _).size))
end Go.Proofs.Ytgghkimjminbaaa
