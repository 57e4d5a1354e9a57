/- Lists of numbers put one after the other. -/
import Derived.Test.YtfkifcjjkaenhaaGreatDoorRead
import Derived.Test.YtfkifcjjkaenhaaGreatDoorApp
import Derived.Shelf.Spec.SlicesGrow
set_option linter.all false
namespace Go.Proofs
open Go.Shelf
shelf_lay_g Lays8.n4 Nm8 4 at Tryz 72 as YtfkifcjjkaenhaaGreatDoor.growI
end Go.Proofs
namespace Go.Proofs.YtfkifcjjkaenhaaGreatDoor
open Go.RowKit

/-- As RowsAt; a row that is nil has no room. -/
def RowsZ (w : World) (B : Nat) (A : Option Addr) (M : List (List Int)) : Prop :=
  ∀ i l, M[i]? = some l → ∃ b off A' c, A = some ⟨b, off, none⟩ ∧ b < B ∧ w.cell? ⟨b, off + i, none⟩ = some (.slice A' l.length c) ∧ l.length ≤ c ∧ IntsAt w B A' l ∧ (A' = none → c = 0)
theorem RowsZ.rows {w : World} {B : Nat} {A : Option Addr} {M : List (List Int)} (h : RowsZ w B A M) : RowsAt w B A M := by
  intro i l hl
  obtain ⟨b, off, A', c, h1, h2, h3, h4, h5, _⟩ := h i l hl
  exact ⟨b, off, A', c, h1, h2, h3, h4, h5⟩
theorem RowsZ.below {w w' : World} {B : Nat} {A : Option Addr} {M : List (List Int)} (h : RowsZ w B A M) (hb : Below B w w') : RowsZ w' B A M := by
  intro i l hl
  obtain ⟨b, off, A', c, e, hB, c0, hc, hi, hz⟩ := h i l hl
  exact ⟨b, off, A', c, e, hB, (hb.cell (p := ⟨b, _, none⟩) hB).trans c0, hc, hi.below hb, hz⟩
theorem RowsZ.mono {w : World} {B B' : Nat} {A : Option Addr} {M : List (List Int)} (h : RowsZ w B A M) (hB : B ≤ B') : RowsZ w B' A M := by
  intro i l hl
  obtain ⟨b, off, A', c, e, hb, c0, hc, hi, hz⟩ := h i l hl
  exact ⟨b, off, A', c, e, by omega, c0, hc, hi.mono hB, hz⟩
theorem src_ints {w : World} {B : Nat} {A : Option Addr} {c : Nat} {l : List Int} (h : IntsAt w B A l) (hz : A = none → c = 0) : Src w A l.length c (ints l) := by
  cases A with
  | none =>
    have e : l = [] := by
      cases l with
      | nil => rfl
      | cons a r => obtain ⟨b, off, e, _⟩ := h 0 a rfl; cases e
    subst e
    exact .inl ⟨rfl, rfl, hz rfl, rfl⟩
  | some ad =>
    refine .inr ⟨ad, rfl, fun j u hu => ?_⟩
    simp only [ints, List.getElem?_map] at hu
    cases hj : l[j]? with
    | none => rw [hj] at hu; cases hu
    | some z =>
      rw [hj] at hu
      cases hu
      obtain ⟨b, off, e, _, hc⟩ := h j z hj
      cases e
      rw [add_at]
      exact hc
theorem ints_one (l : List Int) : ∀ u ∈ ints l, u.oneCell' = true := by
  intro u hu
  simp only [ints, List.mem_map] at hu
  obtain ⟨z, _, rfl⟩ := hu
  rfl
theorem cat_take (M : List (List Int)) (k : Nat) (l : List Int) (h : M[k]? = some l) : (M.take (k + 1)).flatten = (M.take k).flatten ++ l := by
  rw [List.take_add_one, h]; simp
theorem cat_len_le (M : List (List Int)) (k : Nat) : (M.take k).flatten.length ≤ M.flatten.length := by
  have := congrArg List.length (congrArg List.flatten (List.take_append_drop k M))
  rw [List.flatten_append, List.length_append] at this
  omega
/-- It returns these numbers in memory of the call's own. -/
def RetList (w : World) (L : List Int) (e : Ending) (w' : World) : Prop :=
  ∃ A c, e = .returned (.slice A L.length c) ∧ w'.ownsRow w.heap.size 3 1 (.slice A L.length c) L.length (ints L) ∧ Below w.heap.size w w'
theorem alloc_top (w : World) (o : Obj) : (w.alloc o).heap[w.heap.size]? = some o := by
  show (w.heap.push o)[w.heap.size]? = some o
  simp
theorem growN_any (n : Nat) (w : World) (hn : n ≤ 1000000) : Calls Tryz.prog 72 #[.slice none 0 0, .int .i64 n] w fun e w' => ∃ A c, e = .returned (.slice A 0 c) ∧ w'.ownsRow w.heap.size 3 1 (.slice A 0 c) 0 [] ∧ Below w.heap.size w w' := by
  obtain ⟨i0, hi, hz0, hz1, hz2⟩ := info_parts infoInt
  rcases Nat.eq_zero_or_pos n with rfl | h0
  · refine (Any8.slices_Grow_room growI none 0 0 0 w (Nat.le_refl _) (by omega) (by omega) (by omega)).mono ?_
    rintro e w' ⟨rfl, rfl⟩
    exact ⟨none, 0, rfl, World.ownsRow_nil _ _ _ _, Below.refl _ _⟩
  · refine (Any8.slices_Grow_grow growI i0 (.int .i64 0) hi hz0 (by omega) none 0 0 n [] w (Nat.le_refl _) (by omega) (by rw [hz2]; omega) (by omega) (by simp) (fun _ => rfl) (fun a e => by cases e)).mono ?_
    rintro e w' ⟨rfl, rfl⟩
    have hge := grownCap_ge w (0 + n) 0 3
    have hle := grownCap_le_maxLen w (0 + n) 0 3 (by unfold maxLen; omega)
    refine ⟨_, _, rfl, ⟨by simp, .inr ⟨_, _, _, rfl, Nat.le_refl _, alloc_top w.drew _, Nat.zero_le _, hle, ?_, by simp⟩⟩, ((Below.refl _ w).drew).alloc (Nat.le_refl _) _⟩
    simp only [Array.size_append, size_zeroCells]
    have e1 : (Value.int .i64 0).cells.size = 1 := rfl
    have e2 : (#[] : Array Value).size = 0 := rfl
    have e3 : grownCap w (0 + n) 0 (growI_ren.t 25) = grownCap w (0 + n) 0 3 := rfl
    rw [e1, e3]
    simp only [List.size_toArray, List.length_nil]
    omega

set_option maxRecDepth 100000 in
set_option maxHeartbeats 4000000 in
theorem bkSides_any (A : Option Addr) (n c : Nat) (M : List (List Int)) (w : World) (hl : M.length = n) (hn : n ≤ 1048576) (ht : M.flatten.length ≤ 1000000) (hM : RowsZ w w.heap.size A M) :
    Calls Tryz.prog 34 #[.slice A n c] w (RetList w M.flatten) := by
  subst hl
  obtain ⟨i0, hi, hz0, hz1, hz2⟩ := info_parts infoInt
  go_enter Tryz.func34, Tryz.ntmps34
  go_wp2_with fail
  go_loopw [3, 8] (fun v i wr => ∃ (k : Nat) (A1 : Option Addr) (n1 c1 : Nat), k ≤ M.length ∧ i = .int .i64 k ∧ v = .slice A1 n1 c1 ∧ n1 = (M.take k).flatten.length ∧ Below w.heap.size w wr ∧ wr.ownsRow w.heap.size 3 1 (.slice A1 n1 c1) n1 (ints (M.take k).flatten)) (fun _ i _ => M.length - (intOf i).toNat)
  case atStart => exact ⟨0, none, 0, 0, Nat.zero_le _, rfl, rfl, rfl, Below.refl _ _, World.ownsRow_nil _ _ _ _⟩
  case round =>
    obtain ⟨k, A1, n1, c1, hk, rfl, rfl, hn1, hbr, hown⟩ := hrel
    have HN := Lib.hid hn1
    by_cases hlt : k < M.length
    · obtain ⟨l, hs⟩ : ∃ l, M[k]? = some l := ⟨_, List.getElem?_eq_getElem hlt⟩
      obtain ⟨b, off, A2, c2, rfl, hb, d0, hlc, hI, hnil⟩ := (hM.below hbr) k l hs
      have k0 : (0 : Int) ≤ (k : Int) := by omega
      have k1 : (k : Int) < (M.length : Int) := by omega
      have htk := cat_take M k l hs
      have htot : (M.take (k + 1)).flatten.length ≤ 1000000 := Nat.le_trans (cat_len_le M (k + 1)) ht
      have hlen2 : n1 + l.length ≤ 1000000 := by rw [htk, List.length_append] at htot; omega
      have hsrc := src_ints hI hnil
      have hby1 : n1 + l.length ≤ maxLen := by unfold maxLen; omega
      have hby2 : (n1 + l.length) * 8 ≤ 140737488355328 := by omega
      have HS := Lib.hid htk
      clear hs htk hM htot hn1
      go_wp2_with (at_builtin; refine app_list rfl _ _ _ rfl w.heap.size 3 i0 (.int .i64 0) 1 8 Tryz.underlying32 hi hz0 hz1 hz2 rfl (by decide) (.slice A1 n1 c1) n1 _ rfl hown A2 l.length c2 (ints l) rfl (by rw [ints_len, Nat.mul_one]) hsrc (ints_one l) hby1 hby2 hbr.size ?_; intro v' w6 hown6 hgrow hv6; obtain ⟨A6, c6, rfl⟩ := own_val hown6; have hB6 := hbr.grown hgrow hbr.size (fun kk e => (hown.lt kk e).1))
      clear hgrow hv6
      go_roundw
      case rel => exact ⟨k + 1, A6, n1 + l.length, c6, by omega, by go_num, rfl, by rw [HS.out, List.length_append, HN.out], hB6, by rw [HS.out, ints_app]; exact hown6⟩
      case measure => simp [intOf]; omega
    · obtain rfl : k = M.length := by omega
      rw [List.take_of_length_le (Nat.le_refl _)] at hown
      have hn2 : n1 = M.flatten.length := by have := HN.out; rwa [List.take_of_length_le (Nat.le_refl _)] at this
      have HN2 := Lib.hid hn2
      clear hM hn1 hn2
      go_wp2_with fail
      go_ret
      obtain rfl := HN2.out
      exact ⟨A1, c1, rfl, hown, hbr⟩
set_option maxRecDepth 100000 in
set_option maxHeartbeats 4000000 in
theorem concat_any (A : Option Addr) (n c : Nat) (M : List (List Int)) (w : World) (hl : M.length = n) (hn : n ≤ 1048576) (ht : M.flatten.length ≤ 1000000) (hM : RowsZ w w.heap.size A M) :
    Calls Tryz.prog 47 #[.slice A n c] w (RetList w M.flatten) := by
  subst hl
  obtain ⟨i0, hi, hz0, hz1, hz2⟩ := info_parts infoInt
  go_enter Tryz.func47, Tryz.ntmps47
  go_wp2_with fail
  go_loopw [3, 11] (fun v i wr => ∃ (k : Nat), k ≤ M.length ∧ i = .int .i64 k ∧ v = .int .i64 (((M.take k).flatten.length : Nat) : Int) ∧ Below w.heap.size w wr) (fun _ i _ => M.length - (intOf i).toNat)
  case atStart => exact ⟨0, Nat.zero_le _, rfl, rfl, Below.refl _ _⟩
  case round =>
    obtain ⟨k, hk, rfl, rfl, hbr⟩ := hrel
    by_cases hlt : k < M.length
    · obtain ⟨l, hs⟩ : ∃ l, M[k]? = some l := ⟨_, List.getElem?_eq_getElem hlt⟩
      obtain ⟨b, off, A2, c2, rfl, hb, d0, hlc, hI, hnil⟩ := (hM.below hbr) k l hs
      have k0 : (0 : Int) ≤ (k : Int) := by omega
      have k1 : (k : Int) < (M.length : Int) := by omega
      have htk := congrArg List.length (cat_take M k l hs)
      rw [List.length_append] at htk
      have htot := Nat.le_trans (cat_len_le M (k + 1)) ht
      obtain ⟨s, hse⟩ : ∃ s, (M.take k).flatten.length = s := ⟨_, rfl⟩
      rw [hse] at htk ⊢
      rw [htk] at htot
      have HK := Lib.hid htk
      have w1 : IntKind.i64.wrap ((s : Int) + (l.length : Int)) = (s : Int) + (l.length : Int) := IntWalk.i64_in _ (by omega)
      have w2 : ¬ (s : Int) + (l.length : Int) < 0 := by omega
      clear hs htk hM hse
      go_wp2_with fail
      go_roundw
      case rel => exact ⟨k + 1, by omega, by go_num, by rw [HK.out]; go_num, hbr⟩
      case measure => simp [intOf]; omega
    · obtain rfl : k = M.length := by omega
      rw [List.take_of_length_le (Nat.le_refl _)]
      obtain ⟨s, hse⟩ : ∃ s, M.flatten.length = s := ⟨_, rfl⟩
      rw [hse] at ht ⊢
      have HSE := Lib.hid hse
      clear hse
      go_wp2_with fail
      refine (growN_any s _ ht).mono ?_
      rintro e w2 ⟨A3, c3, rfl, ho3, hb3⟩
      have hB3 := hbr.trans (hb3.mono hbr.size)
      have ho3 := own_base ho3 hbr.size
      clear hbr hb3
      go_wp2_with fail
      go_loopw [6, 27] (fun v i wr => ∃ (k : Nat) (A1 : Option Addr) (n1 c1 : Nat), k ≤ M.length ∧ i = .int .i64 k ∧ v = .slice A1 n1 c1 ∧ n1 = (M.take k).flatten.length ∧ Below w.heap.size w wr ∧ wr.ownsRow w.heap.size 3 1 (.slice A1 n1 c1) n1 (ints (M.take k).flatten)) (fun _ i _ => M.length - (intOf i).toNat)
      case atStart => exact ⟨0, A3, 0, c3, Nat.zero_le _, rfl, rfl, rfl, hB3, ho3⟩
      case round =>
        obtain ⟨k, A1, n1, c1, hk, rfl, rfl, hn1, hbr, hown⟩ := hrel
        have HN := Lib.hid hn1
        by_cases hlt : k < M.length
        · obtain ⟨l, hs⟩ : ∃ l, M[k]? = some l := ⟨_, List.getElem?_eq_getElem hlt⟩
          obtain ⟨b, off, A2, c2, rfl, hb, d0, hlc, hI, hnil⟩ := (hM.below hbr) k l hs
          have k0 : (0 : Int) ≤ (k : Int) := by omega
          have k1 : (k : Int) < (M.length : Int) := by omega
          have htk := cat_take M k l hs
          have htot : (M.take (k + 1)).flatten.length ≤ 1000000 := by have := cat_len_le M (k + 1); have := HSE.out; omega
          have hlen2 : n1 + l.length ≤ 1000000 := by rw [htk, List.length_append] at htot; omega
          have hsrc := src_ints hI hnil
          have hby1 : n1 + l.length ≤ maxLen := by unfold maxLen; omega
          have hby2 : (n1 + l.length) * 8 ≤ 140737488355328 := by omega
          have HS := Lib.hid htk
          clear hs htk hM htot hn1
          go_wp2_with (at_builtin; refine app_list rfl _ _ _ rfl w.heap.size 3 i0 (.int .i64 0) 1 8 Tryz.underlying32 hi hz0 hz1 hz2 rfl (by decide) (.slice A1 n1 c1) n1 _ rfl hown A2 l.length c2 (ints l) rfl (by rw [ints_len, Nat.mul_one]) hsrc (ints_one l) hby1 hby2 hbr.size ?_; intro v' w6 hown6 hgrow hv6; obtain ⟨A6, c6, rfl⟩ := own_val hown6; have hB6 := hbr.grown hgrow hbr.size (fun kk e => (hown.lt kk e).1))
          clear hgrow hv6
          go_roundw
          case rel => exact ⟨k + 1, A6, n1 + l.length, c6, by omega, by go_num, rfl, by rw [HS.out, List.length_append, HN.out], hB6, by rw [HS.out, ints_app]; exact hown6⟩
          case measure => simp [intOf]; omega
        · obtain rfl : k = M.length := by omega
          rw [List.take_of_length_le (Nat.le_refl _)] at hown
          have hn2 : n1 = M.flatten.length := by have := HN.out; rwa [List.take_of_length_le (Nat.le_refl _)] at this
          have HN2 := Lib.hid hn2
          clear hM hn1 hn2
          go_wp2_with fail
          go_ret
          obtain rfl := HN2.out
          exact ⟨A1, c1, rfl, hown, hbr⟩
end Go.Proofs.YtfkifcjjkaenhaaGreatDoor
