/- halvesDown, halvesAcross of the program. -/
import Derived.Test.YtilneimiedfjnaaCutIn
import Derived.Test.YtilneimiedfjnaaLnA
set_option linter.all false
namespace Go.Proofs.Ytilneimiedfjnaa
open Go.RowKit

/-- What the two areas are, or nothing. -/
def RetHv (w : World) (P : List Int) (f : Int → List Int) (e : Ending) (w' : World) : Prop :=
  ((P = [] ∧ e = .returned (.slice none 0 0)) ∨ ∃ a r g, P = a :: r ∧ e = .returned (.slice (some ⟨g, 0, none⟩) 2 2) ∧ w.heap.size ≤ g ∧ g < w'.heap.size ∧ ∀ i x, (f a)[i]? = some x → w'.cell? ⟨g, i, none⟩ = some (.int .i64 x)) ∧ Below w.heap.size w w'
theorem ciL_whole {W H : Int} {L : List Sq} (hG : Good W H L) : ciL 0 0 W H L = L := by
  have h := J.inn_all (good_fill hG)
  unfold ciL
  unfold J.inn at h
  refine Eq.trans ?_ h
  refine List.filter_congr fun s _ => ?_
  rw [Bool.eq_iff_iff, dc_iff]
  unfold wiB Within
  rw [decide_eq_true_iff]
set_option maxRecDepth 100000 in
set_option maxHeartbeats 4000000 in
theorem halvesDown_any (W H : Int) (A : Option Addr) (n c : Nat) (L : List Sq) (w : World) (hl : L.length = n) (hc : n ≤ c) (hL : SqsAt w w.heap.size A L) (hwf : ∀ s ∈ L, wfS s) (hG : Good W H L) :
    Calls Try.prog 78 #[.agg #[.int .i64 W, .int .i64 H, .slice A n c], .agg #[.int .i64 0, .int .i64 0, .int .i64 W, .int .i64 H]] w (RetHv w (J.lnD L W.toNat) fun a => [0, 0, a, H, a, 0, W - a, H]) := by
  subst hl
  have hn := hG.2.2.1.2
  have hWH : (1 ≤ W ∧ W ≤ 500) ∧ (1 ≤ H ∧ H ≤ 500) := by have h1 := hG.1; have h2 := hG.2.1; omega
  have hsm : ∀ s ∈ L, SmallS s := fun s hs => by have h := (good_fill hG).within s hs; unfold Within at h; unfold SmallS; omega
  go_enter Try.func78, Try.ntmps78
  go_wp2_with fail
  obtain ⟨wa, ha⟩ : ∃ x, x = w.alloc (.cells #[.int .i64 W, .int .i64 H, .slice A L.length c] 29) := ⟨_, rfl⟩
  obtain ⟨wb, hwb⟩ : ∃ x, x = wa.alloc (.cells #[.int .i64 0, .int .i64 0, .int .i64 W, .int .i64 H] 117) := ⟨_, rfl⟩
  have za : wa.heap.size = w.heap.size + 1 := by rw [ha]; simp
  have zb : wb.heap.size = w.heap.size + 2 := by rw [hwb]; simp [za]
  have Ba : Below w.heap.size w wa := by rw [ha]; exact (Below.refl _ _).alloc (Nat.le_refl _) _
  have Bb : Below wa.heap.size wa wb := by rw [hwb]; exact (Below.refl _ _).alloc (Nat.le_refl _) _
  have hB1 : Below w.heap.size w wb := Ba.trans (Bb.mono (by omega))
  have x0 : wb.cell? ⟨wa.heap.size, 0, none⟩ = some (.int .i64 0) := by rw [hwb]; simp
  have x1 : wb.cell? ⟨wa.heap.size, 1, none⟩ = some (.int .i64 0) := by rw [hwb]; simp
  have x2 : wb.cell? ⟨wa.heap.size, 2, none⟩ = some (.int .i64 W) := by rw [hwb]; simp
  have x3 : wb.cell? ⟨wa.heap.size, 3, none⟩ = some (.int .i64 H) := by rw [hwb]; simp
  rw [za] at x0 x1 x2 x3
  rw [← ha, ← hwb]
  clear hwb ha Ba Bb za
  refine (cutIn_any W H A L.length c L 0 0 W H wb rfl (by omega) ((hL.below hB1).mono hB1.size) hsm (by omega) (by omega) (by omega) (by omega)).mono ?_
  rintro e w2 ⟨A2, c2, rfl, ho2, hb2⟩
  rw [ciL_whole hG] at ho2 ⊢
  have hz2 := hb2.size
  have y0 := (hb2.cell (p := ⟨_, _, none⟩) (by show w.heap.size + 1 < _; omega)).trans x0
  have y1 := (hb2.cell (p := ⟨_, _, none⟩) (by show w.heap.size + 1 < _; omega)).trans x1
  have y2 := (hb2.cell (p := ⟨_, _, none⟩) (by show w.heap.size + 1 < _; omega)).trans x2
  have y3 := (hb2.cell (p := ⟨_, _, none⟩) (by show w.heap.size + 1 < _; omega)).trans x3
  have B2 : Below w.heap.size w w2 := hB1.trans (hb2.mono hB1.size)
  have d2 := own_cap ho2
  have q2 := sqs_of_own ho2
  clear x0 x1 x2 x3 ho2 hb2 hB1 hL hsm
  go_wp2_with fail
  refine (implLines_any W H A2 L.length c2 L w2 rfl d2 q2 hwf).mono ?_
  rintro e w3 ⟨A3, c3, rfl, ho3, hb3⟩
  rw [ifGood_yes hG, dc_true hG] at *
  have hmem := fun x => J.lnD_mem (L := L) (k := W.toNat) (x := x)
  obtain ⟨P, hP⟩ : ∃ P, J.lnD L W.toNat = P := ⟨_, rfl⟩
  have HP := Lib.hid hP
  rw [hP] at ho3 hmem ⊢
  have hz3 := hb3.size
  have u0 := (hb3.cell (p := ⟨_, _, none⟩) (by show w.heap.size + 1 < _; omega)).trans y0
  have u1 := (hb3.cell (p := ⟨_, _, none⟩) (by show w.heap.size + 1 < _; omega)).trans y1
  have u2 := (hb3.cell (p := ⟨_, _, none⟩) (by show w.heap.size + 1 < _; omega)).trans y2
  have u3 := (hb3.cell (p := ⟨_, _, none⟩) (by show w.heap.size + 1 < _; omega)).trans y3
  have B3 : Below w.heap.size w w3 := B2.trans (hb3.mono B2.size)
  clear y0 y1 y2 y3 hb3 B2 hP q2 d2
  cases P with
  | nil =>
    go_wp2_with fail
    refine bodyPost_ret (v := .slice none 0 0) (by simp [results, Try.results78, go_sem]) rfl ?_
    exact ⟨.inl ⟨HP.out, rfl⟩, B3⟩
  | cons a r =>
    obtain ⟨gb, off, rfl, hgl, ga⟩ := ints_of_own ho3 0 a rfl
    simp only [Nat.add_zero] at ga
    have hm := hmem a (List.mem_cons_self ..)
    have ha : 1 ≤ a ∧ a ≤ 500 := by omega
    have d1 : ((r.length : Int) + 1 == 0) = false := by rw [beq_eq_false_iff_ne]; omega
    have d2 : (0 : Int) < (r.length : Int) + 1 := by omega
    have w1 : IntKind.i64.wrap (0 + a) = a := by rw [Int.zero_add]; exact IntWalk.i64_in _ (by omega)
    have w1' : IntKind.i64.wrap a = a := IntWalk.i64_in _ (by omega)
    have w2' : IntKind.i64.wrap (W - a) = W - a := IntWalk.i64_in _ (by omega)
    have hz : w.heap.size + 2 ≤ w3.heap.size := by omega
    clear ho3 hmem
    go_wp2_with fail
    refine bodyPost_ret (v := .slice (some ⟨w3.heap.size, 0, none⟩) 2 2) (by simp [results, Try.results78, go_sem]) rfl ?_
    refine ⟨.inr ⟨a, r, w3.heap.size, HP.out, rfl, by omega, by simp, fun i x hi => ?_⟩, B3.alloc (by omega) _⟩
    match i, hi with
    | 0, hi | 1, hi | 2, hi | 3, hi | 4, hi | 5, hi | 6, hi | 7, hi => simp at hi; subst hi; simp
    | i + 8, hi => simp at hi
set_option maxRecDepth 100000 in
set_option maxHeartbeats 4000000 in
theorem halvesAcross_any (W H : Int) (A : Option Addr) (n c : Nat) (L : List Sq) (w : World) (hl : L.length = n) (hc : n ≤ c) (hL : SqsAt w w.heap.size A L) (hwf : ∀ s ∈ L, wfS s) (hG : Good W H L) :
    Calls Try.prog 77 #[.agg #[.int .i64 W, .int .i64 H, .slice A n c], .agg #[.int .i64 0, .int .i64 0, .int .i64 W, .int .i64 H]] w (RetHv w (J.lnD (J.swL L) H.toNat) fun a => [0, 0, W, a, 0, a, W, H - a]) := by
  subst hl
  have hn := hG.2.2.1.2
  have hWH : (1 ≤ W ∧ W ≤ 500) ∧ (1 ≤ H ∧ H ≤ 500) := by have h1 := hG.1; have h2 := hG.2.1; omega
  have hsm : ∀ s ∈ L, SmallS s := fun s hs => by have h := (good_fill hG).within s hs; unfold Within at h; unfold SmallS; omega
  go_enter Try.func77, Try.ntmps77
  go_wp2_with fail
  obtain ⟨wa, ha⟩ : ∃ x, x = w.alloc (.cells #[.int .i64 W, .int .i64 H, .slice A L.length c] 29) := ⟨_, rfl⟩
  obtain ⟨wb, hwb⟩ : ∃ x, x = wa.alloc (.cells #[.int .i64 0, .int .i64 0, .int .i64 W, .int .i64 H] 117) := ⟨_, rfl⟩
  have za : wa.heap.size = w.heap.size + 1 := by rw [ha]; simp
  have zb : wb.heap.size = w.heap.size + 2 := by rw [hwb]; simp [za]
  have Ba : Below w.heap.size w wa := by rw [ha]; exact (Below.refl _ _).alloc (Nat.le_refl _) _
  have Bb : Below wa.heap.size wa wb := by rw [hwb]; exact (Below.refl _ _).alloc (Nat.le_refl _) _
  have hB1 : Below w.heap.size w wb := Ba.trans (Bb.mono (by omega))
  have x0 : wb.cell? ⟨wa.heap.size, 0, none⟩ = some (.int .i64 0) := by rw [hwb]; simp
  have x1 : wb.cell? ⟨wa.heap.size, 1, none⟩ = some (.int .i64 0) := by rw [hwb]; simp
  have x2 : wb.cell? ⟨wa.heap.size, 2, none⟩ = some (.int .i64 W) := by rw [hwb]; simp
  have x3 : wb.cell? ⟨wa.heap.size, 3, none⟩ = some (.int .i64 H) := by rw [hwb]; simp
  rw [za] at x0 x1 x2 x3
  rw [← ha, ← hwb]
  clear hwb ha Ba Bb za
  refine (cutIn_any W H A L.length c L 0 0 W H wb rfl (by omega) ((hL.below hB1).mono hB1.size) hsm (by omega) (by omega) (by omega) (by omega)).mono ?_
  rintro e w2 ⟨A2, c2, rfl, ho2, hb2⟩
  rw [ciL_whole hG] at ho2 ⊢
  have hz2 := hb2.size
  have y0 := (hb2.cell (p := ⟨_, _, none⟩) (by show w.heap.size + 1 < _; omega)).trans x0
  have y1 := (hb2.cell (p := ⟨_, _, none⟩) (by show w.heap.size + 1 < _; omega)).trans x1
  have y2 := (hb2.cell (p := ⟨_, _, none⟩) (by show w.heap.size + 1 < _; omega)).trans x2
  have y3 := (hb2.cell (p := ⟨_, _, none⟩) (by show w.heap.size + 1 < _; omega)).trans x3
  have B2 : Below w.heap.size w w2 := hB1.trans (hb2.mono hB1.size)
  have d2 := own_cap ho2
  have q2 := sqs_of_own ho2
  clear x0 x1 x2 x3 ho2 hb2 hB1 hL hsm
  go_wp2_with fail
  refine (implAcross_any W H A2 L.length c2 L w2 rfl d2 q2 hwf).mono ?_
  rintro e w3 ⟨A3, c3, rfl, ho3, hb3⟩
  rw [ifGood_yes hG, dc_true hG] at *
  have hmem := fun x => J.lnD_mem (L := J.swL L) (k := H.toNat) (x := x)
  obtain ⟨P, hP⟩ : ∃ P, J.lnD (J.swL L) H.toNat = P := ⟨_, rfl⟩
  have HP := Lib.hid hP
  rw [hP] at ho3 hmem ⊢
  have hz3 := hb3.size
  have u0 := (hb3.cell (p := ⟨_, _, none⟩) (by show w.heap.size + 1 < _; omega)).trans y0
  have u1 := (hb3.cell (p := ⟨_, _, none⟩) (by show w.heap.size + 1 < _; omega)).trans y1
  have u2 := (hb3.cell (p := ⟨_, _, none⟩) (by show w.heap.size + 1 < _; omega)).trans y2
  have u3 := (hb3.cell (p := ⟨_, _, none⟩) (by show w.heap.size + 1 < _; omega)).trans y3
  have B3 : Below w.heap.size w w3 := B2.trans (hb3.mono B2.size)
  clear y0 y1 y2 y3 hb3 B2 hP q2 d2
  cases P with
  | nil =>
    go_wp2_with fail
    refine bodyPost_ret (v := .slice none 0 0) (by simp [results, Try.results77, go_sem]) rfl ?_
    exact ⟨.inl ⟨HP.out, rfl⟩, B3⟩
  | cons a r =>
    obtain ⟨gb, off, rfl, hgl, ga⟩ := ints_of_own ho3 0 a rfl
    simp only [Nat.add_zero] at ga
    have hm := hmem a (List.mem_cons_self ..)
    have ha : 1 ≤ a ∧ a ≤ 500 := by omega
    have d1 : ((r.length : Int) + 1 == 0) = false := by rw [beq_eq_false_iff_ne]; omega
    have d2 : (0 : Int) < (r.length : Int) + 1 := by omega
    have w1 : IntKind.i64.wrap (0 + a) = a := by rw [Int.zero_add]; exact IntWalk.i64_in _ (by omega)
    have w1' : IntKind.i64.wrap a = a := IntWalk.i64_in _ (by omega)
    have w2' : IntKind.i64.wrap (H - a) = H - a := IntWalk.i64_in _ (by omega)
    have hz : w.heap.size + 2 ≤ w3.heap.size := by omega
    clear ho3 hmem
    go_wp2_with fail
    refine bodyPost_ret (v := .slice (some ⟨w3.heap.size, 0, none⟩) 2 2) (by simp [results, Try.results77, go_sem]) rfl ?_
    refine ⟨.inr ⟨a, r, w3.heap.size, HP.out, rfl, by omega, by simp, fun i x hi => ?_⟩, B3.alloc (by omega) _⟩
    match i, hi with
    | 0, hi | 1, hi | 2, hi | 3, hi | 4, hi | 5, hi | 6, hi | 7, hi => simp at hi; subst hi; simp
    | i + 8, hi => simp at hi
end Go.Proofs.Ytilneimiedfjnaa
