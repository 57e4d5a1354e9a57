/- Contracts of LongestLine, the program's and the model's. -/
import Derived.Test.YtgghkimjminbaaaLongJ
import Derived.Test.YtgghkimjminbaaaTurnU
set_option linter.all false
namespace Go.Proofs.Ytgghkimjminbaaa
open Go.RowKit

namespace M
theorem SpecM.uniq {L : List Sq} {W H : Nat} {m m' : Int} (h : SpecM L W H m) (k : SpecM L W H m') : m = m' := by
  have key : ∀ {m m' : Int}, SpecM L W H m → SpecM L W H m' → m ≤ m' := by
    intro m m' h k
    rcases h.is with h0 | ⟨y, x, h1, h2, h3, h4⟩
    · have := k.pos; omega
    · have := k.ge y x h1 h2 h3; omega
  have := key h k
  have := key k h
  omega
theorem ImplM.uniq {L : List Sq} {H : Nat} {m m' : Int} (h : ImplM L H m) (k : ImplM L H m') : m = m' := by
  have key : ∀ {m m' : Int}, ImplM L H m → ImplM L H m' → m ≤ m' := by
    intro m m' h k
    rcases h.is with h0 | ⟨s, hs, h1, e, h2, h3⟩
    · have := k.pos; omega
    · have := k.ge s hs h1 e h2; omega
  have := key h k
  have := key k h
  omega
/-- The number of the longest line across, told in either way. -/
def Num (L : List Sq) (W H : Nat) (m : Int) : Prop := SpecM L W H m ∨ ImplM L H m
theorem Num.uniq {L : List Sq} {W H : Nat} {m m' : Int} (hC : Cut L W H) (h : Num L W H m) (k : Num L W H m') : m = m' := by
  rcases h with h | h <;> rcases k with k | k
  · exact h.uniq k
  · exact same_most hC h k
  · exact (same_most hC k h).symm
  · exact h.uniq k
end M
/-- The answer (m, ok) of LongestLine. -/
def LongSays (W H : Int) (L : List Sq) (m : Int) (ok : Bool) : Prop :=
  (Good W H L ∧ ok = true ∧ ∃ (a b : Nat) (m1 m2 : Int), W = a ∧ H = b ∧ M.Num L a b m1 ∧ M.Num (srt (turnL H L)) b a m2 ∧ m = max m1 m2) ∨ (¬ Good W H L ∧ ok = false ∧ m = 0)
theorem LongSays.unique {W H : Int} {L : List Sq} {m m' : Int} {ok ok' : Bool} (h : LongSays W H L m ok) (h' : LongSays W H L m' ok') : m = m' ∧ ok = ok' := by
  rcases h with ⟨hG, rfl, a, b, m1, m2, ha, hb, h1, h2, rfl⟩ | ⟨hG, rfl, rfl⟩ <;> rcases h' with ⟨hG', rfl, a', b', n1, n2, ha', hb', k1, k2, rfl⟩ | ⟨hG', rfl, rfl⟩
  · obtain rfl : a = a' := by omega
    obtain rfl : b = b' := by omega
    obtain ⟨a0, b0, e1, e2, hC⟩ := cut_of_good hG
    obtain rfl : a0 = a := by omega
    obtain rfl : b0 = b := by omega
    obtain ⟨a1, b1, e3, e4, hC'⟩ := cut_of_good (good_turn hG)
    obtain rfl : a1 = b0 := by omega
    obtain rfl : b1 = a0 := by omega
    rw [h1.uniq hC k1, h2.uniq hC' k2]
    exact ⟨rfl, rfl⟩
  · exact absurd hG hG'
  · exact absurd hG' hG
  · exact ⟨rfl, rfl⟩
def RetLong (w : World) (W H : Int) (L : List Sq) (e : Ending) (w' : World) : Prop := ∃ m ok, e = .returned (.tuple #[.int .i64 m, .bool ok]) ∧ LongSays W H L m ok ∧ Below w.heap.size w w'

set_option maxRecDepth 100000 in
set_option maxHeartbeats 8000000 in
theorem implLong_any (W H : Int) (A : Option Addr) (n c : Nat) (L : List Sq) (w : World) (hl : L.length = n) (hc : n ≤ c) (hL : SqsAt w w.heap.size A L) (hwf : ∀ s ∈ L, wfS s) :
    Calls Try.prog 24 #[.agg #[.int .i64 W, .int .i64 H, .slice A n c]] w (RetLong w W H L) := by
  subst hl
  have hb0 : ∀ o : Obj, Below w.heap.size w (w.alloc o) := fun o => (Below.refl _ _).alloc (Nat.le_refl _) o
  have Z0 : Box w.heap.size w (w.alloc (.cells #[.int .i64 W, .int .i64 H, .slice A L.length c] 24)) W H A c L := Box.start hL
  by_cases hG : Good W H L
  · obtain ⟨WW, HH, rfl, rfl, hC⟩ := cut_of_good hG
    have hC' : M.Cut (srt (turnL HH L)) HH WW := by
      obtain ⟨a1, b1, e3, e4, hC'⟩ := cut_of_good (good_turn hG)
      obtain rfl : a1 = HH := by omega
      obtain rfl : b1 = WW := by omega
      exact hC'
    have hG' := good_turn hG
    have h30 : L.length ≤ 30 := hG.2.2.1.2
    go_enter Try.func24, Try.ntmps24
    go_wp2_with fail
    refine (callB_yes (isCut_good _ _ A _ c L _ rfl hc ((hL.below (hb0 _)).mono (hb0 _).size) hwf) hG).mono ?_
    rintro e w1 ⟨rfl, hb1⟩
    have Z1 := Z0.next hb1
    obtain ⟨hB1, hz1, b0, b1', b2, hL1⟩ := id Z1
    have HC := Lib.hid hC
    have HC' := Lib.hid hC'
    have HG := Lib.hid hG
    have HG' := Lib.hid hG'
    have hLT := hL1.mono hB1.size
    have HLT := Lib.hid hLT
    clear Z0 hb1 hC hC' hG hG' hLT hL1 hL hb0
    have C1 : ∀ w' : World, (Below w1.heap.size w1 w' ∧ w1.heap.size ≤ w'.heap.size ∧ ∀ b o, b < w1.heap.size → w'.cell? ⟨b, o, none⟩ = w1.cell? ⟨b, o, none⟩) → Calls Try.prog 67 #[.agg #[.int .i64 (WW : Nat), .int .i64 (HH : Nat), .slice A L.length c]] w' fun e w2 => (∃ m, e = .returned (.int .i64 m) ∧ M.ImplM L HH m ∧ m ≤ (WW : Nat)) ∧ Below w'.heap.size w' w2 := fun w' hS => across_any WW HH A L.length c L w' rfl hc HG.out HC.out (sqsS HLT.out hS)
    have C2 : ∀ w' : World, (Below w1.heap.size w1 w' ∧ w1.heap.size ≤ w'.heap.size ∧ ∀ b o, b < w1.heap.size → w'.cell? ⟨b, o, none⟩ = w1.cell? ⟨b, o, none⟩) → Calls Try.prog 68 #[.agg #[.int .i64 (WW : Nat), .int .i64 (HH : Nat), .slice A L.length c]] w' (RetOrd w' w'.heap.size HH WW (turnL HH L)) := fun w' hS => turned_any WW HH A L.length c L w' rfl hc (sqsS HLT.out hS) HG.out
    have C3 : ∀ (Ag : Option Addr) (cg : Nat) (w' : World), (∃ base, w'.ownsRow base 39 3 (.slice Ag (turnL HH L).length cg) (turnL HH L).length (flat (srt (turnL HH L)))) → Calls Try.prog 67 #[.agg #[.int .i64 (HH : Nat), .int .i64 (WW : Nat), .slice Ag (turnL HH L).length cg]] w' fun e w2 => (∃ m, e = .returned (.int .i64 m) ∧ M.ImplM (srt (turnL HH L)) WW m ∧ m ≤ (HH : Nat)) ∧ Below w'.heap.size w' w2 := fun Ag cg w' hS => by
      obtain ⟨base, hown⟩ := hS
      exact across_any HH WW Ag _ cg (srt (turnL HH L)) w' (srt_len _) (own_cap hown) HG'.out HC'.out (sqs_of_own hown)
    go_wp2_with fail
    go_region_held3 (fun w' => Below w1.heap.size w1 w' ∧ w1.heap.size ≤ w'.heap.size ∧ ∀ b o, b < w1.heap.size → w'.cell? ⟨b, o, none⟩ = w1.cell? ⟨b, o, none⟩)
      (first | assumption | exact keepS (by assumption) (by assumption) | exact ⟨(Below.refl _ _).drew, Nat.le_refl _, fun _ _ _ => rfl⟩)
      (first
        | (go_at_call 68; (with_reducible refine (C2 _ (by assumption)).mono ?_); rintro e w3 ⟨Ag, cg, T, rfl, hp, hs, hown, hb3⟩; obtain rfl := srt_uniq hp hs ((fill_turn (good_fill HG.out)).dist))
        | (go_at_call 67; (with_reducible refine (C1 _ (by assumption)).mono ?_); rintro e w2 ⟨⟨m1, rfl, hm1, hm1'⟩, hb2⟩)
        | (go_at_call 67; (with_reducible refine (C3 _ _ _ (by first | exact ⟨_, hown⟩ | exact ⟨_, own_keep hown (by assumption)⟩)).mono ?_); rintro e w4 ⟨⟨m2, rfl, hm2, hm2'⟩, hb4⟩))
    have hBF := hB1.trans ((belowS (B := w1.heap.size) (wp := w4) (by assumption)).mono hB1.size)
    have N1 := Lib.hid hm1
    have N2 := Lib.hid hm2
    clear hm1 hm2 C1 C2 C3 hp hs hown hb2 hb3 hb4 Z1
    go_wp2_with fail
    go_ret2
    exact ⟨max m1 m2, true, rfl, .inl ⟨HG.out, rfl, WW, HH, m1, m2, rfl, rfl, .inr N1.out, .inr N2.out, rfl⟩, hBF⟩
  · go_enter Try.func24, Try.ntmps24
    go_wp2_with fail
    refine (callB_no (isCut_good W H A _ c L _ rfl hc ((hL.below (hb0 _)).mono (hb0 _).size) hwf) hG).mono ?_
    rintro e w1 ⟨rfl, hb1⟩
    go_wp2_with fail
    go_ret2
    exact ⟨0, false, rfl, .inr ⟨hG, rfl, rfl⟩, (hb0 _).trans (hb1.mono (hb0 _).size)⟩

set_option maxRecDepth 100000 in
set_option maxHeartbeats 8000000 in
theorem specLong_any (W H : Int) (A : Option Addr) (n c : Nat) (L : List Sq) (w : World) (hl : L.length = n) (hc : n ≤ c) (hL : SqsAt w w.heap.size A L) :
    Calls Try.prog 25 #[.agg #[.int .i64 W, .int .i64 H, .slice A n c]] w (RetLong w W H L) := by
  subst hl
  have hb0 : ∀ o : Obj, Below w.heap.size w (w.alloc o) := fun o => (Below.refl _ _).alloc (Nat.le_refl _) o
  have Z0 : Box w.heap.size w (w.alloc (.cells #[.int .i64 W, .int .i64 H, .slice A L.length c] 24)) W H A c L := Box.start hL
  by_cases hG : Good W H L
  · obtain ⟨WW, HH, rfl, rfl, hC⟩ := cut_of_good hG
    have hC' : M.Cut (srt (turnL HH L)) HH WW := by
      obtain ⟨a1, b1, e3, e4, hC'⟩ := cut_of_good (good_turn hG)
      obtain rfl : a1 = HH := by omega
      obtain rfl : b1 = WW := by omega
      exact hC'
    have hG' := good_turn hG
    have h30 : L.length ≤ 30 := hG.2.2.1.2
    go_enter Try.func25, Try.ntmps25
    go_wp2_with fail
    refine (callB_yes (cuGood_any _ _ A _ c L _ rfl hc ((hL.below (hb0 _)).mono (hb0 _).size)) hG).mono ?_
    rintro e w1 ⟨rfl, hb1⟩
    have Z1 := Z0.next hb1
    obtain ⟨hB1, hz1, b0, b1', b2, hL1⟩ := id Z1
    have HC := Lib.hid hC
    have HC' := Lib.hid hC'
    have HG := Lib.hid hG
    have HG' := Lib.hid hG'
    have hLT := hL1.mono hB1.size
    have HLT := Lib.hid hLT
    clear Z0 hb1 hC hC' hG hG' hLT hL1 hL hb0
    have C1 : ∀ w' : World, (Below w1.heap.size w1 w' ∧ w1.heap.size ≤ w'.heap.size ∧ ∀ b o, b < w1.heap.size → w'.cell? ⟨b, o, none⟩ = w1.cell? ⟨b, o, none⟩) → Calls Try.prog 70 #[.agg #[.int .i64 (WW : Nat), .int .i64 (HH : Nat), .slice A L.length c]] w' fun e w2 => (∃ m, e = .returned (.int .i64 m) ∧ M.SpecM L WW HH m ∧ m ≤ (WW : Nat)) ∧ Below w'.heap.size w' w2 := fun w' hS => cuLine_any WW HH A L.length c L w' rfl hc HG.out (sqsS HLT.out hS)
    have C2 : ∀ w' : World, (Below w1.heap.size w1 w' ∧ w1.heap.size ≤ w'.heap.size ∧ ∀ b o, b < w1.heap.size → w'.cell? ⟨b, o, none⟩ = w1.cell? ⟨b, o, none⟩) → Calls Try.prog 71 #[.agg #[.int .i64 (WW : Nat), .int .i64 (HH : Nat), .slice A L.length c]] w' (RetOrd w' w'.heap.size HH WW (turnL HH L)) := fun w' hS => cuTurn_any WW HH A L.length c L w' rfl hc (sqsS HLT.out hS) HG.out
    have C3 : ∀ (Ag : Option Addr) (cg : Nat) (w' : World), (∃ base, w'.ownsRow base 39 3 (.slice Ag (turnL HH L).length cg) (turnL HH L).length (flat (srt (turnL HH L)))) → Calls Try.prog 70 #[.agg #[.int .i64 (HH : Nat), .int .i64 (WW : Nat), .slice Ag (turnL HH L).length cg]] w' fun e w2 => (∃ m, e = .returned (.int .i64 m) ∧ M.SpecM (srt (turnL HH L)) HH WW m ∧ m ≤ (HH : Nat)) ∧ Below w'.heap.size w' w2 := fun Ag cg w' hS => by
      obtain ⟨base, hown⟩ := hS
      exact cuLine_any HH WW Ag _ cg (srt (turnL HH L)) w' (srt_len _) (own_cap hown) HG'.out (sqs_of_own hown)
    go_wp2_with fail
    go_region_held3 (fun w' => Below w1.heap.size w1 w' ∧ w1.heap.size ≤ w'.heap.size ∧ ∀ b o, b < w1.heap.size → w'.cell? ⟨b, o, none⟩ = w1.cell? ⟨b, o, none⟩)
      (first | assumption | exact keepS (by assumption) (by assumption) | exact ⟨(Below.refl _ _).drew, Nat.le_refl _, fun _ _ _ => rfl⟩)
      (first
        | (go_at_call 71; (with_reducible refine (C2 _ (by assumption)).mono ?_); rintro e w3 ⟨Ag, cg, T, rfl, hp, hs, hown, hb3⟩; obtain rfl := srt_uniq hp hs ((fill_turn (good_fill HG.out)).dist))
        | (go_at_call 70; (with_reducible refine (C1 _ (by assumption)).mono ?_); rintro e w2 ⟨⟨m1, rfl, hm1, hm1'⟩, hb2⟩)
        | (go_at_call 70; (with_reducible refine (C3 _ _ _ (by first | exact ⟨_, hown⟩ | exact ⟨_, own_keep hown (by assumption)⟩)).mono ?_); rintro e w4 ⟨⟨m2, rfl, hm2, hm2'⟩, hb4⟩)
        | (go_at_call 69; (with_reducible refine (l1Most_any _ _ _).mono ?_); rintro e w5 ⟨rfl, rfl⟩))
    have hBF := hB1.trans ((belowS (B := w1.heap.size) (wp := w4) (by assumption)).mono hB1.size)
    have N1 := Lib.hid hm1
    have N2 := Lib.hid hm2
    clear hm1 hm2 C1 C2 C3 hp hs hown hb2 hb3 hb4 Z1
    go_wp2_with fail
    go_ret2
    exact ⟨mxI m1 m2, true, rfl, .inl ⟨HG.out, rfl, WW, HH, m1, m2, rfl, rfl, .inl N1.out, .inl N2.out, by unfold mxI; split <;> omega⟩, hBF⟩
  · go_enter Try.func25, Try.ntmps25
    go_wp2_with fail
    refine (callB_no (cuGood_any W H A _ c L _ rfl hc ((hL.below (hb0 _)).mono (hb0 _).size)) hG).mono ?_
    rintro e w1 ⟨rfl, hb1⟩
    go_wp2_with fail
    go_ret2
    exact ⟨0, false, rfl, .inr ⟨hG, rfl, rfl⟩, (hb0 _).trans (hb1.mono (hb0 _).size)⟩
end Go.Proofs.Ytgghkimjminbaaa
