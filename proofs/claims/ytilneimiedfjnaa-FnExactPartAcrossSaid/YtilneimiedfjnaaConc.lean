/- Lists of squares put one after the other: slices.Concat. -/
import Derived.Test.YtilneimiedfjnaaCutOfI
import Derived.Shelf.Spec.SlicesGrow
set_option linter.all false
namespace Go.Proofs
open Go.Shelf
shelf_lay_g Lays8.n4 Nm8 4 at Try 106 as Ytilneimiedfjnaa.growSq
end Go.Proofs
namespace Go.Proofs.Ytilneimiedfjnaa
open Go.RowKit

/-- As RowsAt; a row that is nil has no room. -/
def RowsQ (w : World) (B : Nat) (A : Option Addr) (M : List (List Sq)) : Prop :=
  ∀ i l, M[i]? = some l → ∃ b off A' c, A = some ⟨b, off, none⟩ ∧ b < B ∧ w.cell? ⟨b, off + i, none⟩ = some (.slice A' l.length c) ∧ l.length ≤ c ∧ SqsAt w B A' l ∧ (A' = none → l.length = 0 ∧ c = 0)
theorem RowsQ.below {w w' : World} {B : Nat} {A : Option Addr} {M : List (List Sq)} (h : RowsQ w B A M) (hb : Below B w w') : RowsQ w' B A M := by
  intro i l hl
  obtain ⟨b, off, A', c, e, hB, c0, hc, hi, hz⟩ := h i l hl
  exact ⟨b, off, A', c, e, hB, (hb.cell (p := ⟨b, _, none⟩) hB).trans c0, hc, hi.below hb, hz⟩
theorem RowsQ.mono {w : World} {B B' : Nat} {A : Option Addr} {M : List (List Sq)} (h : RowsQ w B A M) (hB : B ≤ B') : RowsQ w B' A M := by
  intro i l hl
  obtain ⟨b, off, A', c, e, hb, c0, hc, hi, hz⟩ := h i l hl
  exact ⟨b, off, A', c, e, by omega, c0, hc, hi.mono hB, hz⟩
theorem catq_take (M : List (List Sq)) (k : Nat) (l : List Sq) (h : M[k]? = some l) : (M.take (k + 1)).flatten = (M.take k).flatten ++ l := by
  rw [List.take_add_one, h]; simp
theorem catq_len_le (M : List (List Sq)) (k : Nat) : (M.take k).flatten.length ≤ M.flatten.length := by
  have := congrArg List.length (congrArg List.flatten (List.take_append_drop k M))
  rw [List.flatten_append, List.length_append] at this
  omega
/-- It returns these squares in memory of the call's own. -/
def RetQ (w : World) (L : List Sq) (e : Ending) (w' : World) : Prop :=
  ∃ A c, e = .returned (.slice A L.length c) ∧ w'.ownsRow w.heap.size 65 3 (.slice A L.length c) L.length (flat L) ∧ Below w.heap.size w w'
theorem alloc_topq (w : World) (o : Obj) : (w.alloc o).heap[w.heap.size]? = some o := by
  show (w.heap.push o)[w.heap.size]? = some o
  simp
theorem growQ_any (n : Nat) (w : World) (hn : n ≤ 1000000) : Calls Try.prog 106 #[.slice none 0 0, .int .i64 n] w fun e w' => ∃ A c, e = .returned (.slice A 0 c) ∧ w'.ownsRow w.heap.size 65 3 (.slice A 0 c) 0 [] ∧ Below w.heap.size w w' := by
  obtain ⟨i0, hi, hz0, hz1, hz2⟩ := info_parts infoSq
  rcases Nat.eq_zero_or_pos n with rfl | h0
  · refine (Any8.slices_Grow_room growSq none 0 0 0 w (Nat.le_refl _) (by omega) (by omega) (by omega)).mono ?_
    rintro e w' ⟨rfl, rfl⟩
    exact ⟨none, 0, rfl, World.ownsRow_nil _ _ _ _, Below.refl _ _⟩
  · refine (Any8.slices_Grow_grow growSq i0 (.agg #[.int .i64 0, .int .i64 0, .int .i64 0]) hi hz0 (by omega) none 0 0 n [] w (Nat.le_refl _) (by omega) (by rw [hz2]; omega) (by omega) (by simp) (fun _ => rfl) (fun a e => by cases e)).mono ?_
    rintro e w' ⟨rfl, rfl⟩
    have hge := grownCap_ge w (0 + n) 0 65
    have hle := grownCap_le_maxLen w (0 + n) 0 65 (by unfold maxLen; omega)
    refine ⟨_, _, rfl, ⟨by simp, .inr ⟨_, _, _, rfl, Nat.le_refl _, alloc_topq w.drew _, Nat.zero_le _, hle, ?_, by simp⟩⟩, ((Below.refl _ w).drew).alloc (Nat.le_refl _) _⟩
    simp only [Array.size_append, size_zeroCells]
    have e1 : (Value.agg #[.int .i64 0, .int .i64 0, .int .i64 0]).cells.size = 3 := rfl
    have e2 : (#[] : Array Value).size = 0 := rfl
    have e3 : grownCap w (0 + n) 0 (growSq_ren.t 25) = grownCap w (0 + n) 0 65 := rfl
    rw [e1, e3]
    simp only [List.size_toArray, List.length_nil]
    omega


set_option maxRecDepth 100000 in
set_option maxHeartbeats 4000000 in
theorem concatQ_any (A : Option Addr) (n c : Nat) (M : List (List Sq)) (w : World) (hl : M.length = n) (hn : n ≤ 1048576) (ht : M.flatten.length ≤ 1000000) (hM : RowsQ w w.heap.size A M) :
    Calls Try.prog 70 #[.slice A n c] w (RetQ w M.flatten) := by
  subst hl
  obtain ⟨i0, hi, hz0, hz1, hz2⟩ := info_parts infoSq
  go_enter Try.func70, Try.ntmps70
  go_wp2_with fail
  go_loopw [3, 11] (fun v i wr => ∃ (k : Nat), k ≤ M.length ∧ i = .int .i64 k ∧ v = .int .i64 (((M.take k).flatten.length : Nat) : Int) ∧ Below w.heap.size w wr) (fun _ i _ => M.length - (intOf i).toNat)
  case atStart => exact ⟨0, Nat.zero_le _, rfl, rfl, Below.refl _ _⟩
  case round =>
    obtain ⟨k, hk, rfl, rfl, hbr⟩ := hrel
    by_cases hlt : k < M.length
    · obtain ⟨l, hs⟩ : ∃ l, M[k]? = some l := ⟨_, List.getElem?_eq_getElem hlt⟩
      obtain ⟨b, off, A2, c2, rfl, hb, d0, hlc, hI, hnil⟩ := (hM.below hbr) k l hs
      have k0 : (0 : Int) ≤ (k : Int) := by omega
      have k1 : (k : Int) < (M.length : Int) := by omega
      have htk := congrArg List.length (catq_take M k l hs)
      rw [List.length_append] at htk
      have htot := Nat.le_trans (catq_len_le M (k + 1)) ht
      obtain ⟨s, hse⟩ : ∃ s, (M.take k).flatten.length = s := ⟨_, rfl⟩
      rw [hse] at htk ⊢
      rw [htk] at htot
      have HK := Lib.hid htk
      have w1 : IntKind.i64.wrap ((s : Int) + (l.length : Int)) = (s : Int) + (l.length : Int) := IntWalk.i64_in _ (by omega)
      have w2 : ¬ (s : Int) + (l.length : Int) < 0 := by omega
      clear hs htk hM hse
      go_wp2_with fail
      go_roundw
      case rel => exact ⟨k + 1, by omega, by go_num, by rw [HK.out]; go_num, hbr⟩
      case measure => simp [intOf]; omega
    · obtain rfl : k = M.length := by omega
      rw [List.take_of_length_le (Nat.le_refl _)]
      obtain ⟨s, hse⟩ : ∃ s, M.flatten.length = s := ⟨_, rfl⟩
      rw [hse] at ht ⊢
      have HSE := Lib.hid hse
      clear hse
      go_wp2_with fail
      refine (growQ_any s _ ht).mono ?_
      rintro e w2 ⟨A3, c3, rfl, ho3, hb3⟩
      have hB3 := hbr.trans (hb3.mono hbr.size)
      have ho3 := own_base ho3 hbr.size
      clear hbr hb3
      go_wp2_with fail
      go_loopw [6, 27] (fun v i wr => ∃ (k : Nat) (A1 : Option Addr) (n1 c1 : Nat), k ≤ M.length ∧ i = .int .i64 k ∧ v = .slice A1 n1 c1 ∧ n1 = (M.take k).flatten.length ∧ Below w.heap.size w wr ∧ wr.ownsRow w.heap.size 65 3 (.slice A1 n1 c1) n1 (flat (M.take k).flatten)) (fun _ i _ => M.length - (intOf i).toNat)
      case atStart => exact ⟨0, A3, 0, c3, Nat.zero_le _, rfl, rfl, rfl, hB3, ho3⟩
      case round =>
        obtain ⟨k, A1, n1, c1, hk, rfl, rfl, hn1, hbr, hown⟩ := hrel
        have HN := Lib.hid hn1
        by_cases hlt : k < M.length
        · obtain ⟨l, hs⟩ : ∃ l, M[k]? = some l := ⟨_, List.getElem?_eq_getElem hlt⟩
          obtain ⟨b, off, A2, c2, rfl, hb, d0, hlc, hI, hnil⟩ := (hM.below hbr) k l hs
          have k0 : (0 : Int) ≤ (k : Int) := by omega
          have k1 : (k : Int) < (M.length : Int) := by omega
          have htk := catq_take M k l hs
          have htot : (M.take (k + 1)).flatten.length ≤ 1000000 := by have := catq_len_le M (k + 1); have := HSE.out; omega
          have hlen2 : n1 + l.length ≤ 1000000 := by rw [htk, List.length_append] at htot; omega
          have hsrc := src_sqs rfl hI hnil
          have hby1 : n1 + l.length ≤ maxLen := by unfold maxLen; omega
          have hby2 : (n1 + l.length) * 24 ≤ 140737488355328 := by omega
          have HS := Lib.hid htk
          clear hs htk hM htot hn1
          go_wp2_with (at_builtin; refine app_list rfl _ _ _ rfl w.heap.size 65 i0 (.agg #[.int .i64 0, .int .i64 0, .int .i64 0]) 3 24 Try.underlying27 hi hz0 hz1 hz2 rfl (by decide) (.slice A1 n1 c1) n1 _ rfl hown A2 l.length c2 (flat l) rfl (flat_len l) hsrc (flat_one l) hby1 hby2 hbr.size ?_; intro v' w6 hown6 hgrow hv6; obtain ⟨A6, c6, rfl⟩ := own_val hown6; have hB6 := hbr.grown hgrow hbr.size (fun kk e => (hown.lt kk e).1))
          clear hgrow hv6
          go_roundw
          case rel => exact ⟨k + 1, A6, n1 + l.length, c6, by omega, by go_num, rfl, by rw [HS.out, List.length_append, HN.out], hB6, by rw [HS.out, flat_app]; exact hown6⟩
          case measure => simp [intOf]; omega
        · obtain rfl : k = M.length := by omega
          rw [List.take_of_length_le (Nat.le_refl _)] at hown
          have hn2 : n1 = M.flatten.length := by have := HN.out; rwa [List.take_of_length_le (Nat.le_refl _)] at this
          have HN2 := Lib.hid hn2
          clear hM hn1 hn2
          go_wp2_with fail
          go_ret
          obtain rfl := HN2.out
          exact ⟨A1, c1, rfl, hown, hbr⟩
end Go.Proofs.Ytilneimiedfjnaa
