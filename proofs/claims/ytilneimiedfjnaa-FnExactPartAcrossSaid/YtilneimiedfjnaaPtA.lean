/- PartDown and PartAcross: the program, the model. -/
import Derived.Test.YtilneimiedfjnaaPart
import Derived.Test.YtilneimiedfjnaaLnE
import Derived.Test.YtilneimiedfjnaaTurnT
import Derived.Deep.DeepCutAuto
import Derived.Deep.CutBlock
set_option linter.all false
namespace Go.Proofs.Ytilneimiedfjnaa
open Go.RowKit

/-- Two cuts, and whether there are any. -/
structure Pt where
  x1 : Int
  y1 : Int
  l1 : List Sq
  x2 : Int
  y2 : Int
  l2 : List Sq
  ok : Bool
def noPt : Pt := ⟨0, 0, [], 0, 0, [], false⟩
noncomputable def dnF (W H : Int) (L : List Sq) : List Int → Pt
  | [] => noPt
  | a :: _ => ⟨a, H, J.paX a L, W - a, H, J.pbX a L, true⟩
noncomputable def acF (W H : Int) (L : List Sq) : List Int → Pt
  | [] => noPt
  | a :: _ => ⟨W, a, J.paY a L, W, H - a, J.pbY a L, true⟩
noncomputable def dnPt (W H : Int) (L : List Sq) : Pt := if dc (Good W H L) then dnF W H L (J.lnD L W.toNat) else noPt
noncomputable def acPt (W H : Int) (L : List Sq) : Pt := if dc (Good W H L) then acF W H L (J.lnD (J.swL L) H.toNat) else noPt
theorem dnPt_yes {W H : Int} {L : List Sq} (h : Good W H L) : dnPt W H L = dnF W H L (J.lnD L W.toNat) := by simp [dnPt, dc_true h]
theorem dnPt_no {W H : Int} {L : List Sq} (h : ¬ Good W H L) : dnPt W H L = noPt := by simp [dnPt, dc_false h]
theorem acPt_yes {W H : Int} {L : List Sq} (h : Good W H L) : acPt W H L = acF W H L (J.lnD (J.swL L) H.toNat) := by simp [acPt, dc_true h]
theorem acPt_no {W H : Int} {L : List Sq} (h : ¬ Good W H L) : acPt W H L = noPt := by simp [acPt, dc_false h]
def RetPt (w : World) (p : Pt) (e : Ending) (w' : World) : Prop :=
  ∃ A1 c1 A2 c2, e = .returned (.tuple #[.agg #[.int .i64 p.x1, .int .i64 p.y1, .slice A1 p.l1.length c1], .agg #[.int .i64 p.x2, .int .i64 p.y2, .slice A2 p.l2.length c2], .bool p.ok]) ∧ w'.ownsRow w.heap.size 65 3 (.slice A1 p.l1.length c1) p.l1.length (flat p.l1) ∧ w'.ownsRow w.heap.size 65 3 (.slice A2 p.l2.length c2) p.l2.length (flat p.l2) ∧ (∀ g, (Value.slice A1 p.l1.length c1).ownBlock = some g → (Value.slice A2 p.l2.length c2).ownBlock ≠ some g) ∧ Below w.heap.size w w'
theorem RetPt.none_ {w w' : World} (hb : Below w.heap.size w w') : RetPt w noPt (.returned (.tuple #[.agg #[.int .i64 0, .int .i64 0, .slice none 0 0], .agg #[.int .i64 0, .int .i64 0, .slice none 0 0], .bool false])) w' :=
  ⟨none, 0, none, 0, rfl, World.ownsRow_nil _ _ _ _, World.ownsRow_nil _ _ _ _, fun g h => (by cases h), hb⟩
theorem RetPt.later {w w1 : World} {p : Pt} (hb : Below w.heap.size w w1) {e : Ending} {w' : World} (h : RetPt w1 p e w') : RetPt w p e w' := by
  obtain ⟨A1, c1, A2, c2, he, o1, o2, hd, hb'⟩ := h
  exact ⟨A1, c1, A2, c2, he, own_base o1 hb.size, own_base o2 hb.size, hd, hb.trans (hb'.mono hb.size)⟩
theorem ciL_inn (x y a b : Int) (L : List Sq) : ciL x y a b L = J.inn x y a b L := by
  unfold ciL J.inn
  refine List.filter_congr fun s _ => ?_
  rw [Bool.eq_iff_iff, dc_iff]
  unfold wiB Within
  rw [decide_eq_true_iff]

set_option maxRecDepth 100000 in
set_option maxHeartbeats 4000000 in
theorem partBadDown (W H : Int) (A : Option Addr) (n c : Nat) (L : List Sq) (w : World) (hl : L.length = n) (hc : n ≤ c) (hL : SqsAt w w.heap.size A L) (hwf : ∀ s ∈ L, wfS s) (hG : ¬ Good W H L) :
    Calls Try.prog 76 #[.agg #[.int .i64 W, .int .i64 H, .slice A n c], .func (.func 78) #[] #[]] w (RetPt w noPt) := by
  subst hl
  have K1 := PB.start w W H A L.length c
  obtain ⟨W1, hW1⟩ : ∃ x, x = (((w.alloc (.cells #[.int .i64 W, .int .i64 H, .slice A L.length c] 29)).alloc (.cells #[.int .i64 0, .int .i64 0, .slice none 0 0] 29)).alloc (.cells #[.int .i64 0, .int .i64 0, .slice none 0 0] 29)) := ⟨_, rfl⟩
  rw [← hW1] at K1
  go_enter Try.func76, Try.ntmps76
  go_wp2_with fail
  rw [← hW1]
  refine (callB_no (isCut_good W H A _ c L _ rfl hc ((hL.below K1.below).mono K1.below.size) hwf) hG).mono ?_
  rintro e w2 ⟨rfl, hb2⟩
  have K4 := K1.next hb2
  clear hb2 K1 hW1
  have ⟨r0, r1, r2⟩ := K4.r 1 (.inl rfl)
  have ⟨s0, s1, s2⟩ := K4.r 2 (.inr rfl)
  have t0 := K4.f 1 0 (.inl rfl)
  have t1 := K4.f 1 1 (.inl rfl)
  have t2 := K4.f 1 2 (.inl rfl)
  have v0 := K4.f 2 0 (.inr rfl)
  have v1 := K4.f 2 1 (.inr rfl)
  have v2 := K4.f 2 2 (.inr rfl)
  go_wp2_with fail
  have hB := (((((K4.below.setCell (p := ⟨w.heap.size + 1, 0, none⟩) (by simp) (.int .i64 0)).setCell (p := ⟨w.heap.size + 1, 1, none⟩) (by simp) (.int .i64 0)).setCell (p := ⟨w.heap.size + 1, 2, none⟩) (by simp) (.slice none 0 0)).setCell (p := ⟨w.heap.size + 2, 0, none⟩) (by simp) (.int .i64 0)).setCell (p := ⟨w.heap.size + 2, 1, none⟩) (by simp) (.int .i64 0)).setCell (p := ⟨w.heap.size + 2, 2, none⟩) (by simp) (.slice none 0 0)
  refine bodyPost_ret (v := .tuple #[.agg #[.int .i64 0, .int .i64 0, .slice none 0 0], .agg #[.int .i64 0, .int .i64 0, .slice none 0 0], .bool false]) (by simp [results, Try.results76, go_sem, r0, r1, r2, s0, s1, s2]) rfl ?_
  exact RetPt.none_ hB
theorem partCutDown (W H : Int) (A : Option Addr) (n c : Nat) (L : List Sq) (w : World) (hl : L.length = n) (hc : n ≤ c) (hL : SqsAt w w.heap.size A L) (hwf : ∀ s ∈ L, wfS s) :
    Calls Try.prog 76 #[.agg #[.int .i64 W, .int .i64 H, .slice A n c], .func (.func 78) #[] #[]] w (RetPt w (dnPt W H L)) := by
  by_cases hG : Good W H L
  · rw [dnPt_yes hG]
    have hH := fun w1 (hb : Below w.heap.size w w1) => halvesDown_any W H A n c L w1 hl hc ((hL.below hb).mono hb.size) hwf hG
    have hmem := fun a (h : a ∈ J.lnD L W.toNat) => J.lnD_mem h
    have hW := hG.1
    have hHH := hG.2.1
    cases hln : J.lnD L W.toNat with
    | nil =>
      refine (partNoDown W H A n c L w hl hc hL hwf hG (fun w1 hb => (hH w1 hb).mono ?_)).mono ?_
      · rintro e w' ⟨⟨_, rfl⟩ | ⟨a, r, g, e', _⟩, hb'⟩
        · exact ⟨rfl, hb'⟩
        · rw [hln] at e'; cases e'
      · rintro e w' ⟨rfl, hb'⟩
        exact RetPt.none_ hb'
    | cons a r =>
      have ha := hmem a (by rw [hln]; exact List.mem_cons_self)
      refine (partYesDown W H A n c L 0 0 a H a 0 (W - a) H (by omega) w hl hc hL hwf hG (fun w1 hb => (hH w1 hb).mono ?_)).mono ?_
      · rintro e w' ⟨⟨e', _⟩ | ⟨a', r', g, e', rfl, h1, h2, h3⟩, hb'⟩
        · rw [hln] at e'; cases e'
        · rw [hln] at e'
          cases e'
          exact ⟨g, rfl, ⟨h1, h2, h3 0 _ rfl, h3 1 _ rfl, h3 2 _ rfl, h3 3 _ rfl, h3 4 _ rfl, h3 5 _ rfl, h3 6 _ rfl, h3 7 _ rfl⟩, hb'⟩
      · rintro e w' ⟨A1, c1, A2, c2, he, o1, o2, hd, hb'⟩
        have e1 := (ciL_inn 0 0 a H L).trans (J.inn_a (good_fill hG) ha.2.2)
        have e2 := (ciL_inn a 0 (W - a) H L).trans (J.inn_b (good_fill hG) ha.2.2)
        rw [e1] at he o1 hd
        rw [e2] at he o2 hd
        exact ⟨A1, c1, A2, c2, he, o1, o2, hd, hb'⟩
  · rw [dnPt_no hG]
    exact partBadDown W H A n c L w hl hc hL hwf hG
set_option maxRecDepth 100000 in
set_option maxHeartbeats 4000000 in
theorem implPartDown_any (W H : Int) (A : Option Addr) (n c : Nat) (L : List Sq) (w : World) (hl : L.length = n) (hc : n ≤ c) (hL : SqsAt w w.heap.size A L) (hwf : ∀ s ∈ L, wfS s) :
    Calls Try.prog 35 #[.agg #[.int .i64 W, .int .i64 H, .slice A n c]] w (RetPt w (dnPt W H L)) := by
  subst hl
  have K1 := PB.start w W H A L.length c
  obtain ⟨W1, hW1⟩ : ∃ x, x = (((w.alloc (.cells #[.int .i64 W, .int .i64 H, .slice A L.length c] 29)).alloc (.cells #[.int .i64 0, .int .i64 0, .slice none 0 0] 29)).alloc (.cells #[.int .i64 0, .int .i64 0, .slice none 0 0] 29)) := ⟨_, rfl⟩
  rw [← hW1] at K1
  have C := partCutDown W H A L.length c L W1 rfl hc ((hL.below K1.below).mono K1.below.size) hwf
  obtain ⟨p, hp⟩ : ∃ p, dnPt W H L = p := ⟨_, rfl⟩
  rw [hp] at C ⊢
  have HC := Lib.hid C
  clear C hp hL hwf hc
  go_enter Try.func35, Try.ntmps35
  go_wp2_with fail
  rw [← hW1]
  refine HC.out.mono ?_
  rintro e w2 ⟨A1, c1, A2, c2, rfl, o1, o2, hd, hb2⟩
  have hz := K1.size
  have K4 := K1.next hb2
  clear K1 hW1 HC
  have ⟨r0, r1, r2⟩ := K4.r 1 (.inl rfl)
  have ⟨s0, s1, s2⟩ := K4.r 2 (.inr rfl)
  have t0 := K4.f 1 0 (.inl rfl)
  have t1 := K4.f 1 1 (.inl rfl)
  have t2 := K4.f 1 2 (.inl rfl)
  have v0 := K4.f 2 0 (.inr rfl)
  have v1 := K4.f 2 1 (.inr rfl)
  have v2 := K4.f 2 2 (.inr rfl)
  have O1 := own_base (base' := w.heap.size + 3) o1 hz
  have O2 := own_base (base' := w.heap.size + 3) o2 hz
  go_wp2_with fail
  have hB := (((((K4.below.setCell (p := ⟨w.heap.size + 1, 0, none⟩) (by simp) (.int .i64 p.x1)).setCell (p := ⟨w.heap.size + 1, 1, none⟩) (by simp) (.int .i64 p.y1)).setCell (p := ⟨w.heap.size + 1, 2, none⟩) (by simp) (.slice A1 p.l1.length c1)).setCell (p := ⟨w.heap.size + 2, 0, none⟩) (by simp) (.int .i64 p.x2)).setCell (p := ⟨w.heap.size + 2, 1, none⟩) (by simp) (.int .i64 p.y2)).setCell (p := ⟨w.heap.size + 2, 2, none⟩) (by simp) (.slice A2 p.l2.length c2)
  refine bodyPost_ret (v := .tuple #[.agg #[.int .i64 p.x1, .int .i64 p.y1, .slice A1 p.l1.length c1], .agg #[.int .i64 p.x2, .int .i64 p.y2, .slice A2 p.l2.length c2], .bool p.ok]) (by simp [results, Try.results35, go_sem, r0, r1, r2, s0, s1, s2]) rfl ?_
  exact ⟨A1, c1, A2, c2, rfl, six O1, six O2, hd, hB⟩

set_option maxRecDepth 100000 in
set_option maxHeartbeats 4000000 in
theorem partBadAcross (W H : Int) (A : Option Addr) (n c : Nat) (L : List Sq) (w : World) (hl : L.length = n) (hc : n ≤ c) (hL : SqsAt w w.heap.size A L) (hwf : ∀ s ∈ L, wfS s) (hG : ¬ Good W H L) :
    Calls Try.prog 76 #[.agg #[.int .i64 W, .int .i64 H, .slice A n c], .func (.func 77) #[] #[]] w (RetPt w noPt) := by
  subst hl
  have K1 := PB.start w W H A L.length c
  obtain ⟨W1, hW1⟩ : ∃ x, x = (((w.alloc (.cells #[.int .i64 W, .int .i64 H, .slice A L.length c] 29)).alloc (.cells #[.int .i64 0, .int .i64 0, .slice none 0 0] 29)).alloc (.cells #[.int .i64 0, .int .i64 0, .slice none 0 0] 29)) := ⟨_, rfl⟩
  rw [← hW1] at K1
  go_enter Try.func76, Try.ntmps76
  go_wp2_with fail
  rw [← hW1]
  refine (callB_no (isCut_good W H A _ c L _ rfl hc ((hL.below K1.below).mono K1.below.size) hwf) hG).mono ?_
  rintro e w2 ⟨rfl, hb2⟩
  have K4 := K1.next hb2
  clear hb2 K1 hW1
  have ⟨r0, r1, r2⟩ := K4.r 1 (.inl rfl)
  have ⟨s0, s1, s2⟩ := K4.r 2 (.inr rfl)
  have t0 := K4.f 1 0 (.inl rfl)
  have t1 := K4.f 1 1 (.inl rfl)
  have t2 := K4.f 1 2 (.inl rfl)
  have v0 := K4.f 2 0 (.inr rfl)
  have v1 := K4.f 2 1 (.inr rfl)
  have v2 := K4.f 2 2 (.inr rfl)
  go_wp2_with fail
  have hB := (((((K4.below.setCell (p := ⟨w.heap.size + 1, 0, none⟩) (by simp) (.int .i64 0)).setCell (p := ⟨w.heap.size + 1, 1, none⟩) (by simp) (.int .i64 0)).setCell (p := ⟨w.heap.size + 1, 2, none⟩) (by simp) (.slice none 0 0)).setCell (p := ⟨w.heap.size + 2, 0, none⟩) (by simp) (.int .i64 0)).setCell (p := ⟨w.heap.size + 2, 1, none⟩) (by simp) (.int .i64 0)).setCell (p := ⟨w.heap.size + 2, 2, none⟩) (by simp) (.slice none 0 0)
  refine bodyPost_ret (v := .tuple #[.agg #[.int .i64 0, .int .i64 0, .slice none 0 0], .agg #[.int .i64 0, .int .i64 0, .slice none 0 0], .bool false]) (by simp [results, Try.results76, go_sem, r0, r1, r2, s0, s1, s2]) rfl ?_
  exact RetPt.none_ hB
theorem partCutAcross (W H : Int) (A : Option Addr) (n c : Nat) (L : List Sq) (w : World) (hl : L.length = n) (hc : n ≤ c) (hL : SqsAt w w.heap.size A L) (hwf : ∀ s ∈ L, wfS s) :
    Calls Try.prog 76 #[.agg #[.int .i64 W, .int .i64 H, .slice A n c], .func (.func 77) #[] #[]] w (RetPt w (acPt W H L)) := by
  by_cases hG : Good W H L
  · rw [acPt_yes hG]
    have hH := fun w1 (hb : Below w.heap.size w w1) => halvesAcross_any W H A n c L w1 hl hc ((hL.below hb).mono hb.size) hwf hG
    have hmem := fun a (h : a ∈ J.lnD (J.swL L) H.toNat) => J.lnD_mem h
    have hW := hG.1
    have hHH := hG.2.1
    cases hln : J.lnD (J.swL L) H.toNat with
    | nil =>
      refine (partNoAcross W H A n c L w hl hc hL hwf hG (fun w1 hb => (hH w1 hb).mono ?_)).mono ?_
      · rintro e w' ⟨⟨_, rfl⟩ | ⟨a, r, g, e', _⟩, hb'⟩
        · exact ⟨rfl, hb'⟩
        · rw [hln] at e'; cases e'
      · rintro e w' ⟨rfl, hb'⟩
        exact RetPt.none_ hb'
    | cons a r =>
      have ha := hmem a (by rw [hln]; exact List.mem_cons_self)
      refine (partYesAcross W H A n c L 0 0 W a 0 a W (H - a) (by omega) w hl hc hL hwf hG (fun w1 hb => (hH w1 hb).mono ?_)).mono ?_
      · rintro e w' ⟨⟨e', _⟩ | ⟨a', r', g, e', rfl, h1, h2, h3⟩, hb'⟩
        · rw [hln] at e'; cases e'
        · rw [hln] at e'
          cases e'
          exact ⟨g, rfl, ⟨h1, h2, h3 0 _ rfl, h3 1 _ rfl, h3 2 _ rfl, h3 3 _ rfl, h3 4 _ rfl, h3 5 _ rfl, h3 6 _ rfl, h3 7 _ rfl⟩, hb'⟩
      · rintro e w' ⟨A1, c1, A2, c2, he, o1, o2, hd, hb'⟩
        have e1 := (ciL_inn 0 0 W a L).trans (J.inn_c (good_fill hG) ha.2.2)
        have e2 := (ciL_inn 0 a W (H - a) L).trans (J.inn_d (good_fill hG) ha.2.2)
        rw [e1] at he o1 hd
        rw [e2] at he o2 hd
        exact ⟨A1, c1, A2, c2, he, o1, o2, hd, hb'⟩
  · rw [acPt_no hG]
    exact partBadAcross W H A n c L w hl hc hL hwf hG
set_option maxRecDepth 100000 in
set_option maxHeartbeats 4000000 in
theorem implPartAcross_any (W H : Int) (A : Option Addr) (n c : Nat) (L : List Sq) (w : World) (hl : L.length = n) (hc : n ≤ c) (hL : SqsAt w w.heap.size A L) (hwf : ∀ s ∈ L, wfS s) :
    Calls Try.prog 33 #[.agg #[.int .i64 W, .int .i64 H, .slice A n c]] w (RetPt w (acPt W H L)) := by
  subst hl
  have K1 := PB.start w W H A L.length c
  obtain ⟨W1, hW1⟩ : ∃ x, x = (((w.alloc (.cells #[.int .i64 W, .int .i64 H, .slice A L.length c] 29)).alloc (.cells #[.int .i64 0, .int .i64 0, .slice none 0 0] 29)).alloc (.cells #[.int .i64 0, .int .i64 0, .slice none 0 0] 29)) := ⟨_, rfl⟩
  rw [← hW1] at K1
  have C := partCutAcross W H A L.length c L W1 rfl hc ((hL.below K1.below).mono K1.below.size) hwf
  obtain ⟨p, hp⟩ : ∃ p, acPt W H L = p := ⟨_, rfl⟩
  rw [hp] at C ⊢
  have HC := Lib.hid C
  clear C hp hL hwf hc
  go_enter Try.func33, Try.ntmps33
  go_wp2_with fail
  rw [← hW1]
  refine HC.out.mono ?_
  rintro e w2 ⟨A1, c1, A2, c2, rfl, o1, o2, hd, hb2⟩
  have hz := K1.size
  have K4 := K1.next hb2
  clear K1 hW1 HC
  have ⟨r0, r1, r2⟩ := K4.r 1 (.inl rfl)
  have ⟨s0, s1, s2⟩ := K4.r 2 (.inr rfl)
  have t0 := K4.f 1 0 (.inl rfl)
  have t1 := K4.f 1 1 (.inl rfl)
  have t2 := K4.f 1 2 (.inl rfl)
  have v0 := K4.f 2 0 (.inr rfl)
  have v1 := K4.f 2 1 (.inr rfl)
  have v2 := K4.f 2 2 (.inr rfl)
  have O1 := own_base (base' := w.heap.size + 3) o1 hz
  have O2 := own_base (base' := w.heap.size + 3) o2 hz
  go_wp2_with fail
  have hB := (((((K4.below.setCell (p := ⟨w.heap.size + 1, 0, none⟩) (by simp) (.int .i64 p.x1)).setCell (p := ⟨w.heap.size + 1, 1, none⟩) (by simp) (.int .i64 p.y1)).setCell (p := ⟨w.heap.size + 1, 2, none⟩) (by simp) (.slice A1 p.l1.length c1)).setCell (p := ⟨w.heap.size + 2, 0, none⟩) (by simp) (.int .i64 p.x2)).setCell (p := ⟨w.heap.size + 2, 1, none⟩) (by simp) (.int .i64 p.y2)).setCell (p := ⟨w.heap.size + 2, 2, none⟩) (by simp) (.slice A2 p.l2.length c2)
  refine bodyPost_ret (v := .tuple #[.agg #[.int .i64 p.x1, .int .i64 p.y1, .slice A1 p.l1.length c1], .agg #[.int .i64 p.x2, .int .i64 p.y2, .slice A2 p.l2.length c2], .bool p.ok]) (by simp [results, Try.results33, go_sem, r0, r1, r2, s0, s1, s2]) rfl ?_
  exact ⟨A1, c1, A2, c2, rfl, six O1, six O2, hd, hB⟩
end Go.Proofs.Ytilneimiedfjnaa
namespace Go.Proofs.Ytilneimiedfjnaa
open Go.RowKit

structure JM (w : World) (W H : Int) (A : Option Addr) (n c : Nat) (g8 g9 : Nat) (X1 Y1 : Int) (A1 : Option Addr) (c1 : Nat) (R1 : List Sq) (X2 Y2 : Int) (A2 : Option Addr) (c2 : Nat) (R2 : List Sq) (wr : World) : Prop where
  pb : PB w W H A n c wr
  size : w.heap.size + 5 ≤ wr.heap.size
  l8 : w.heap.size + 3 ≤ g8
  h8 : g8 < w.heap.size + 5
  l9 : w.heap.size + 3 ≤ g9
  h9 : g9 < w.heap.size + 5
  ne : g8 ≠ g9
  a : Bx g8 wr X1 Y1 A1 R1.length c1
  b : Bx g9 wr X2 Y2 A2 R2.length c2
  f8 : ∀ o, wr.frozen? ⟨g8, o, none⟩ = false
  f9 : ∀ o, wr.frozen? ⟨g9, o, none⟩ = false
  o1 : wr.ownsRow (w.heap.size + 5) 65 3 (.slice A1 R1.length c1) R1.length (flat R1)
  o2 : wr.ownsRow (w.heap.size + 5) 65 3 (.slice A2 R2.length c2) R2.length (flat R2)
  dis : ∀ g, (Value.slice A1 R1.length c1).ownBlock = some g → (Value.slice A2 R2.length c2).ownBlock ≠ some g
section
variable {w : World} {W H : Int} {A : Option Addr} {n c g8 g9 : Nat} {X1 Y1 : Int} {A1 : Option Addr} {c1 : Nat} {R1 : List Sq} {X2 Y2 : Int} {A2 : Option Addr} {c2 : Nat} {R2 : List Sq} {wr : World}
theorem JM.next {w' : World} (h : JM w W H A n c g8 g9 X1 Y1 A1 c1 R1 X2 Y2 A2 c2 R2 wr) (hb : Below wr.heap.size wr w') : JM w W H A n c g8 g9 X1 Y1 A1 c1 R1 X2 Y2 A2 c2 R2 w' :=
  ⟨h.pb.next hb, Nat.le_trans h.size hb.size, h.l8, h.h8, h.l9, h.h9, h.ne, h.a.next hb, h.b.next hb, fun o => (hb.frozen (p := ⟨g8, o, none⟩) h.a.lt).trans (h.f8 o), fun o => (hb.frozen (p := ⟨g9, o, none⟩) h.b.lt).trans (h.f9 o), own_keep h.o1 hb, own_keep h.o2 hb, h.dis⟩
theorem JM.swap (h : JM w W H A n c g8 g9 X1 Y1 A1 c1 R1 X2 Y2 A2 c2 R2 wr) : JM w W H A n c g9 g8 X2 Y2 A2 c2 R2 X1 Y1 A1 c1 R1 wr :=
  ⟨h.pb, h.size, h.l9, h.h9, h.l8, h.h8, h.ne.symm, h.b, h.a, h.f9, h.f8, h.o2, h.o1, fun g h2 h1 => h.dis g h1 h2⟩
/-- After an append to the second list, and the store of what it gave. -/
theorem JM.put {w' : World} {A3 : Option Addr} {c3 : Nat} {R3 : List Sq} (h : JM w W H A n c g8 g9 X1 Y1 A1 c1 R1 X2 Y2 A2 c2 R2 wr) (hg : wr.grownBy w' (Value.slice A2 R2.length c2).ownBlock)
    (ho : w'.ownsRow (w.heap.size + 5) 65 3 (.slice A3 R3.length c3) R3.length (flat R3)) (hv : (Value.slice A3 R3.length c3).ownBlock = (Value.slice A2 R2.length c2).ownBlock ∨ (Value.slice A3 R3.length c3).ownBlock = some wr.heap.size) :
    JM w W H A n c g8 g9 X1 Y1 A1 c1 R1 X2 Y2 A3 c3 R3 (w'.setCell ⟨g9, 2, none⟩ (.slice A3 R3.length c3)) := by
  have hz := h.size
  have l8 := h.l8
  have h8 := h.h8
  have l9 := h.l9
  have h9 := h.h9
  have hs : wr.heap.size ≤ w'.heap.size := hg.size
  have hB : Below (w.heap.size + 5) wr w' := (Below.refl _ _).grown hg hz (fun g e => (h.o2.lt g e).1)
  have hne : ∀ i, i < w.heap.size + 5 → (Value.slice A2 R2.length c2).ownBlock ≠ some i := fun i hi e => by have := (h.o2.lt i e).1; omega
  have hc : ∀ {p : Addr} {v : Value}, p.block < w.heap.size + 5 → p.block ≠ g9 → wr.cell? p = some v → (w'.setCell ⟨g9, 2, none⟩ (.slice A3 R3.length c3)).cell? p = some v := fun hp hn e =>
    (World.cell?_setCell_far _ _ _ _ (fun k => hn k.symm)).trans ((hB.cell hp).trans e)
  have hf : ∀ {p : Addr}, p.block < w.heap.size + 5 → wr.frozen? p = false → (w'.setCell ⟨g9, 2, none⟩ (.slice A3 R3.length c3)).frozen? p = false := fun hp e => by
    rw [World.frozen?_setCell]; exact (hB.frozen hp).trans e
  have b0 := (hB.cell (p := ⟨g9, 0, none⟩) (by show g9 < _; omega)).trans h.b.c0
  have b1 := (hB.cell (p := ⟨g9, 1, none⟩) (by show g9 < _; omega)).trans h.b.c1
  have b2 := (hB.cell (p := ⟨g9, 2, none⟩) (by show g9 < _; omega)).trans h.b.c2
  have hd : ∀ g, (Value.slice A1 R1.length c1).ownBlock = some g → (Value.slice A3 R3.length c3).ownBlock ≠ some g := fun g e1 e3 => by
    rcases hv with e | e
    · exact h.dis g e1 (e.symm.trans e3)
    · have := (h.o1.lt g e1).2
      have := Option.some.inj (e.symm.trans e3)
      omega
  have hx : (Value.slice A1 R1.length c1).ownBlock = none ∨ (Value.slice A1 R1.length c1).ownBlock ≠ (Value.slice A2 R2.length c2).ownBlock := by
    cases e : (Value.slice A1 R1.length c1).ownBlock with
    | none => exact .inl rfl
    | some g => exact .inr fun k => h.dis g e k.symm
  have P := h.pb
  have hPr := P.r
  have hPf := P.f
  refine ⟨⟨(P.below.trans (hB.mono (by omega))).setCell (p := ⟨g9, 2, none⟩) (by show w.heap.size ≤ g9; omega) _, by simp; omega, hc (by show w.heap.size < _; omega) (by show w.heap.size ≠ g9; omega) P.a0, hc (by show w.heap.size < _; omega) (by show w.heap.size ≠ g9; omega) P.a1, hc (by show w.heap.size < _; omega) (by show w.heap.size ≠ g9; omega) P.a2, ?_, ?_⟩,
    by simp; omega, l8, h8, l9, h9, h.ne, ⟨by simp; omega, hc (by show g8 < _; omega) h.ne h.a.c0, hc (by show g8 < _; omega) h.ne h.a.c1, hc (by show g8 < _; omega) h.ne h.a.c2⟩, ⟨by simp; omega, by simp [go_sem, b0], by simp [go_sem, b1], World.cell?_setCell_same _ _ _ b2⟩, fun o => hf (by show g8 < _; omega) (h.f8 o), fun o => hf (by show g9 < _; omega) (h.f9 o),
    ownsRow_setCell_below (h.o1.kept hg hx) (by show g9 < _; omega) _, ownsRow_setCell_below ho (by show g9 < _; omega) _, hd⟩
  · intro k hk
    have hk3 : k < 3 := by omega
    exact ⟨hc (by show w.heap.size + k < _; omega) (by show w.heap.size + k ≠ g9; omega) (hPr k hk).1, hc (by show w.heap.size + k < _; omega) (by show w.heap.size + k ≠ g9; omega) (hPr k hk).2.1, hc (by show w.heap.size + k < _; omega) (by show w.heap.size + k ≠ g9; omega) (hPr k hk).2.2⟩
  · intro k o hk
    exact hf (by show w.heap.size + k < _; omega) (hPf k o hk)
/-- The boxes take other numbers while they have no squares. -/
theorem JM.nums (X1' Y1' X2' Y2' : Int) (h : JM w W H A n c g8 g9 X1 Y1 none 0 [] X2 Y2 none 0 [] wr) :
    JM w W H A n c g8 g9 X1' Y1' none 0 [] X2' Y2' none 0 [] ((((((wr.setCell ⟨g8, 0, none⟩ (.int .i64 X1')).setCell ⟨g8, 1, none⟩ (.int .i64 Y1')).setCell ⟨g8, 2, none⟩ (.slice none 0 0)).setCell ⟨g9, 0, none⟩ (.int .i64 X2')).setCell ⟨g9, 1, none⟩ (.int .i64 Y2')).setCell ⟨g9, 2, none⟩ (.slice none 0 0)) := by
  have hz := h.size
  have l8 := h.l8
  have h8 := h.h8
  have l9 := h.l9
  have h9 := h.h9
  have ne := h.ne
  have ne' := h.ne.symm
  obtain ⟨la, a0, a1, a2⟩ := h.a
  obtain ⟨lb, b0, b1, b2⟩ := h.b
  have P := h.pb
  have f8 := h.f8
  have f9 := h.f9
  have hc : ∀ {p : Addr} {v : Value}, p.block ≠ g8 → p.block ≠ g9 → wr.cell? p = some v → ((((((wr.setCell ⟨g8, 0, none⟩ (.int .i64 X1')).setCell ⟨g8, 1, none⟩ (.int .i64 Y1')).setCell ⟨g8, 2, none⟩ (.slice none 0 0)).setCell ⟨g9, 0, none⟩ (.int .i64 X2')).setCell ⟨g9, 1, none⟩ (.int .i64 Y2')).setCell ⟨g9, 2, none⟩ (.slice none 0 0)).cell? p = some v := fun h1 h2 e => far3 g9 h2 (far3 g8 h1 e)
  refine ⟨⟨(((((P.below.setCell (p := ⟨g8, 0, none⟩) (by show w.heap.size ≤ g8; omega) _).setCell (p := ⟨g8, 1, none⟩) (by show w.heap.size ≤ g8; omega) _).setCell (p := ⟨g8, 2, none⟩) (by show w.heap.size ≤ g8; omega) _).setCell (p := ⟨g9, 0, none⟩) (by show w.heap.size ≤ g9; omega) _).setCell (p := ⟨g9, 1, none⟩) (by show w.heap.size ≤ g9; omega) _).setCell (p := ⟨g9, 2, none⟩) (by show w.heap.size ≤ g9; omega) _, by simp; omega,
    hc (by show w.heap.size ≠ g8; omega) (by show w.heap.size ≠ g9; omega) P.a0, hc (by show w.heap.size ≠ g8; omega) (by show w.heap.size ≠ g9; omega) P.a1, hc (by show w.heap.size ≠ g8; omega) (by show w.heap.size ≠ g9; omega) P.a2, ?_, ?_⟩,
    by simp; omega, l8, h8, l9, h9, ne, ⟨by simp; omega, ?_, ?_, ?_⟩, ⟨by simp; omega, ?_, ?_, ?_⟩, fun o => by simp only [World.frozen?_setCell]; exact f8 o, fun o => by simp only [World.frozen?_setCell]; exact f9 o, World.ownsRow_nil _ _ _ _, World.ownsRow_nil _ _ _ _, fun g e => by cases e⟩
  · intro k hk
    have hk3 : k < 3 := by omega
    have hr := P.r k hk
    exact ⟨hc (by show w.heap.size + k ≠ g8; omega) (by show w.heap.size + k ≠ g9; omega) hr.1, hc (by show w.heap.size + k ≠ g8; omega) (by show w.heap.size + k ≠ g9; omega) hr.2.1, hc (by show w.heap.size + k ≠ g8; omega) (by show w.heap.size + k ≠ g9; omega) hr.2.2⟩
  · intro k o hk
    simp only [World.frozen?_setCell]
    exact P.f k o hk
  all_goals simp [go_sem, a0, a1, a2, b0, b1, b2, ne, ne']
end
theorem own3 {w : World} {base g e size n : Nat} {v x y z : Value} {xs : List Value} (h : w.ownsRow base e size v n xs) (hg : g < base) : (((w.setCell ⟨g, 0, none⟩ x).setCell ⟨g, 1, none⟩ y).setCell ⟨g, 2, none⟩ z).ownsRow base e size v n xs :=
  ownsRow_setCell_below (ownsRow_setCell_below (ownsRow_setCell_below h (a := ⟨g, 0, none⟩) hg x) (a := ⟨g, 1, none⟩) hg y) (a := ⟨g, 2, none⟩) hg z
theorem bel3 {N g : Nat} {w wr : World} {x y z : Value} (h : Below N w wr) (hg : N ≤ g) : Below N w (((wr.setCell ⟨g, 0, none⟩ x).setCell ⟨g, 1, none⟩ y).setCell ⟨g, 2, none⟩ z) :=
  ((h.setCell (p := ⟨g, 0, none⟩) hg x).setCell (p := ⟨g, 1, none⟩) hg y).setCell (p := ⟨g, 2, none⟩) hg z
end Go.Proofs.Ytilneimiedfjnaa
namespace Go.Proofs.Ytilneimiedfjnaa
open Go.RowKit

/-- Two cuts, each in memory of its own. -/
def RetJ (w : World) (X1 Y1 : Int) (L1 : List Sq) (X2 Y2 : Int) (L2 : List Sq) (e : Ending) (w' : World) : Prop :=
  ∃ A1 c1 A2 c2, e = .returned (.tuple #[.agg #[.int .i64 X1, .int .i64 Y1, .slice A1 L1.length c1], .agg #[.int .i64 X2, .int .i64 Y2, .slice A2 L2.length c2]]) ∧ w'.ownsRow w.heap.size 65 3 (.slice A1 L1.length c1) L1.length (flat L1) ∧ w'.ownsRow w.heap.size 65 3 (.slice A2 L2.length c2) L2.length (flat L2) ∧ (∀ g, (Value.slice A1 L1.length c1).ownBlock = some g → (Value.slice A2 L2.length c2).ownBlock ≠ some g) ∧ Below w.heap.size w w'
theorem fm_succ {p : Sq → Bool} {m : Sq → Sq} (M : List Sq) (j : Nat) (s : Sq) (h : M[j]? = some s) : ((M.take (j + 1)).filter p).map m = ((M.take j).filter p).map m ++ (if p s then [m s] else []) := by
  rw [filt_succ M j s h, List.map_append]
  by_cases hp : p s <;> simp [hp]
theorem wpTop.two {P : Program} {ops : Array Oper} {Q : Exit → Act → World → Prop} {md : Region.Mode} {S : World → Prop} (i j : Nat) {n f : Nat} {done : Array Bool} {a : Act} {w : World} (hr : Region.ready md ops done = [i, j])
    (hi : wpOp P ops Q i (fun a' w' => (i < n → S w') ∧ wpTop P md ops Q S n f (done.setIfInBounds i true) a' w') a w)
    (hj : wpOp P ops Q j (fun a' w' => (j < n → S w') ∧ wpTop P md ops Q S n f (done.setIfInBounds j true) a' w') a w) : wpTop P md ops Q S n (f + 1) done a w := by
  refine ⟨fun e => (by rw [hr] at e; cases e), fun k hk => ?_⟩
  rw [hr] at hk
  rcases List.mem_cons.1 hk with rfl | hk
  · exact hi
  · obtain rfl := List.mem_singleton.1 hk
    exact hj
theorem wpTop.go {P : Program} {ops : Array Oper} {Q : Exit → Act → World → Prop} {md : Region.Mode} {S : World → Prop} (i : Nat) {n f : Nat} {o : Oper} {done : Array Bool} {a : Act} {w : World} (ho : ops[i]? = some o)
    (h : ∀ K' : Act → World → Prop, Shut (∀ a w, (i < n → S w) → ((i < n → S w) → wpTop P md ops Q S n f (done.setIfInBounds i true) a w) → K' a w) →
      if Region.wanted o (yielded ops a.tmps) = true then Oper.wp P o a w K' Q else K' (a.put o.dst undef) w) : wpOp P ops Q i (fun a' w' => (i < n → S w') ∧ wpTop P md ops Q S n f (done.setIfInBounds i true) a' w') a w :=
  wpOp_step ho fun K' hK => h K' fun a w hS hW => hK a w ⟨hS, hW hS⟩
theorem JM.start {w W1 : World} {W H : Int} {A : Option Addr} {n c : Nat} (X1 Y1 X2 Y2 : Int) (K : PB w W H A n c W1) (hz : W1.heap.size = w.heap.size + 3) :
    JM w W H A n c W1.heap.size (W1.heap.size + 1) X1 Y1 none 0 [] X2 Y2 none 0 [] ((W1.alloc (.cells #[.int .i64 X1, .int .i64 Y1, .slice none 0 0] 29)).alloc (.cells #[.int .i64 X2, .int .i64 Y2, .slice none 0 0] 29)).drew := by
  have hA : Below W1.heap.size W1 (W1.alloc (.cells #[.int .i64 X1, .int .i64 Y1, .slice none 0 0] 29)) := (Below.refl _ _).alloc (Nat.le_refl _) _
  have x1 := Bx.start W1 X1 Y1 none 0 0 29
  have x2 := Bx.start (W1.alloc (.cells #[.int .i64 X1, .int .i64 Y1, .slice none 0 0] 29)) X2 Y2 none 0 0 29
  have z1 : (W1.alloc (.cells #[.int .i64 X1, .int .i64 Y1, .slice none 0 0] 29)).heap.size = W1.heap.size + 1 := by simp
  have hB : Below (W1.alloc (.cells #[.int .i64 X1, .int .i64 Y1, .slice none 0 0] 29)).heap.size (W1.alloc (.cells #[.int .i64 X1, .int .i64 Y1, .slice none 0 0] 29)) ((W1.alloc (.cells #[.int .i64 X1, .int .i64 Y1, .slice none 0 0] 29)).alloc (.cells #[.int .i64 X2, .int .i64 Y2, .slice none 0 0] 29)) := (Below.refl _ _).alloc (Nat.le_refl _) _
  have x1' := x1.next hB
  rw [z1] at x2
  have J : JM w W H A n c W1.heap.size (W1.heap.size + 1) X1 Y1 none 0 [] X2 Y2 none 0 [] ((W1.alloc (.cells #[.int .i64 X1, .int .i64 Y1, .slice none 0 0] 29)).alloc (.cells #[.int .i64 X2, .int .i64 Y2, .slice none 0 0] 29)) :=
    ⟨K.next (hA.trans (hB.mono (by omega))), by simp; omega, by omega, by omega, by omega, by omega, by omega, x1', x2, fun o => (hB.frozen (p := ⟨W1.heap.size, o, none⟩) (by show W1.heap.size < _; omega)).trans (World.frozen?_alloc_at _ _ _ _ (by simp)), fun o => World.frozen?_alloc_at _ _ _ _ (by simp), World.ownsRow_nil _ _ _ _, World.ownsRow_nil _ _ _ _, fun g e => by cases e⟩
  exact J.next ((Below.refl _ _).drew)
set_option maxRecDepth 100000 in
set_option maxHeartbeats 16000000 in
theorem joPartDown_any (W H at_ : Int) (A : Option Addr) (n c : Nat) (L : List Sq) (w : World) (hl : L.length = n) (hL : SqsAt w w.heap.size A L) (hG : Good W H L) (ha : 0 ≤ at_ ∧ at_ ≤ W) :
    Calls Try.prog 75 #[.agg #[.int .i64 W, .int .i64 H, .slice A n c], .int .i64 at_, .bool true] w (RetJ w (at_) (H) (J.paX at_ L) (W - at_) (H) (J.pbX at_ L)) := by
  subst hl
  obtain ⟨i0, hi, hz0, hz1, hz2⟩ := info_parts infoSq
  have hW := hG.1
  have hH := hG.2.1
  have hn := (good_fill hG).n.2
  have hsb : ∀ s ∈ L, (0 ≤ s.x ∧ s.x ≤ 500) ∧ (0 ≤ s.y ∧ s.y ≤ 500) ∧ (1 ≤ s.d ∧ s.d ≤ 500) := fun s hs => by
    have := (good_fill hG).within s hs
    unfold Within at this
    omega
  have hn60 : L.length ≤ 30 := hn
  have wW : IntKind.i64.wrap (W - at_) = W - at_ := IntWalk.i64_in _ (by omega)
  have wH : IntKind.i64.wrap (H - at_) = H - at_ := IntWalk.i64_in _ (by omega)
  have K1 := PB.start w W H A L.length c
  obtain ⟨W1, hW1⟩ : ∃ x, x = (((w.alloc (.cells #[.int .i64 W, .int .i64 H, .slice A L.length c] 29)).alloc (.cells #[.int .i64 0, .int .i64 0, .slice none 0 0] 29)).alloc (.cells #[.int .i64 0, .int .i64 0, .slice none 0 0] 29)) := ⟨_, rfl⟩
  rw [← hW1] at K1
  have HG := Lib.hid hG
  have HL := Lib.hid hL
  have HN := Lib.hid hn60
  clear hG hL hn hn60
  go_enter Try.func75, Try.ntmps75
  go_upto_region 1 with fail
  rw [← hW1]
  have HZ := Lib.hid (show W1.heap.size = w.heap.size + 3 by rw [hW1]; simp)
  clear hW1
  have a0 := K1.a0
  have a1 := K1.a1
  have hz1' := K1.size
  have HS : ∀ w' : World, Below W1.heap.size W1 w' → w'.cell? ⟨w.heap.size, 0, none⟩ = some (.int .i64 W) ∧ w'.cell? ⟨w.heap.size, 1, none⟩ = some (.int .i64 H) := fun w' hb => ⟨(hb.cell (p := ⟨_, _, none⟩) (by show w.heap.size < _; omega)).trans a0, (hb.cell (p := ⟨_, _, none⟩) (by show w.heap.size < _; omega)).trans a1⟩
  go_cut [8, 9] (fun p8 p9 wx => ∃ g8 g9, p8 = .pointer (some ⟨g8, 0, none⟩) ∧ p9 = .pointer (some ⟨g9, 0, none⟩) ∧ JM w W H A L.length c g8 g9 W at_ none 0 [] W (H - at_) none 0 [] wx)
  case first =>
    refine wp_region_top 15 (fun w' => w'.cell? ⟨w.heap.size, 0, none⟩ = some (.int .i64 W) ∧ w'.cell? ⟨w.heap.size, 1, none⟩ = some (.int .i64 H)) (by kernel_rfl) (HS _ ((Below.refl _ _).drew)) (fun hHeld => ?_)
    refine wpTop.take 0 (v := ?_) rfl (by kernel_rfl) (by kernel_rfl) (by kernel_rfl) (by kernel_rfl) (fun _ _ _ h => h) (Or.inl ⟨by rfl, ?_⟩) (by assumption) ?_
    rotate_left
    · intro w hSw; (try dsimp only at hSw); go_simp; try (with_reducible rfl)
    try simp only [Act.put, List.setIfInBounds_toArray, List.set_cons_zero, List.set_cons_succ, List.getElem_toArray, List.getElem_cons_zero, List.getElem_cons_succ]
    refine wpTop.take 1 (v := ?_) rfl (by kernel_rfl) (by kernel_rfl) (by kernel_rfl) (by kernel_rfl) (fun _ _ _ h => h) (Or.inl ⟨by rfl, ?_⟩) (by assumption) ?_
    rotate_left
    · intro w hSw; (try dsimp only at hSw); go_simp; try (with_reducible rfl)
    try simp only [Act.put, List.setIfInBounds_toArray, List.set_cons_zero, List.set_cons_succ, List.getElem_toArray, List.getElem_cons_zero, List.getElem_cons_succ]
    refine wpTop.take 2 (v := ?_) rfl (by kernel_rfl) (by kernel_rfl) (by kernel_rfl) (by kernel_rfl) (fun _ _ _ h => h) (Or.inl ⟨by rfl, ?_⟩) (by assumption) ?_
    rotate_left
    · intro w hSw; (try dsimp only at hSw); go_simp; try (with_reducible rfl)
    try simp only [Act.put, List.setIfInBounds_toArray, List.set_cons_zero, List.set_cons_succ, List.getElem_toArray, List.getElem_cons_zero, List.getElem_cons_succ]
    refine wpTop.take 3 (v := ?_) rfl (by kernel_rfl) (by kernel_rfl) (by kernel_rfl) (by kernel_rfl) (fun _ _ _ h => h) (Or.inl ⟨by rfl, ?_⟩) (by assumption) ?_
    rotate_left
    · intro w hSw; (try dsimp only at hSw); go_simp; try (with_reducible rfl)
    try simp only [Act.put, List.setIfInBounds_toArray, List.set_cons_zero, List.set_cons_succ, List.getElem_toArray, List.getElem_cons_zero, List.getElem_cons_succ]
    refine wpTop.take 4 (v := ?_) rfl (by kernel_rfl) (by kernel_rfl) (by kernel_rfl) (by kernel_rfl) (fun _ _ _ h => h) (Or.inl ⟨by rfl, ?_⟩) (by assumption) ?_
    rotate_left
    · intro w hSw; (try dsimp only at hSw); go_simp; try (with_reducible rfl)
    try simp only [Act.put, List.setIfInBounds_toArray, List.set_cons_zero, List.set_cons_succ, List.getElem_toArray, List.getElem_cons_zero, List.getElem_cons_succ]
    refine wpTop.take 5 (v := ?_) rfl (by kernel_rfl) (by kernel_rfl) (by kernel_rfl) (by kernel_rfl) (fun _ _ _ h => h) (Or.inl ⟨by rfl, ?_⟩) (by assumption) ?_
    rotate_left
    · intro w hSw; (try dsimp only at hSw); go_simp; try (with_reducible rfl)
    try simp only [Act.put, List.setIfInBounds_toArray, List.set_cons_zero, List.set_cons_succ, List.getElem_toArray, List.getElem_cons_zero, List.getElem_cons_succ]
    refine wpTop.take 6 (v := ?_) rfl (by kernel_rfl) (by kernel_rfl) (by kernel_rfl) (by kernel_rfl) (fun _ _ _ h => h) (Or.inl ⟨by rfl, ?_⟩) (by assumption) ?_
    rotate_left
    · intro w hSw; (try dsimp only at hSw); go_simp; try (with_reducible rfl)
    try simp only [Act.put, List.setIfInBounds_toArray, List.set_cons_zero, List.set_cons_succ, List.getElem_toArray, List.getElem_cons_zero, List.getElem_cons_succ]
    refine wpTop.take 7 (v := ?_) rfl (by kernel_rfl) (by kernel_rfl) (by kernel_rfl) (by kernel_rfl) (fun _ _ _ h => h) (Or.inl ⟨by rfl, ?_⟩) (by assumption) ?_
    rotate_left
    · intro w hSw; (try dsimp only at hSw); go_simp; try (with_reducible rfl)
    try simp only [Act.put, List.setIfInBounds_toArray, List.set_cons_zero, List.set_cons_succ, List.getElem_toArray, List.getElem_cons_zero, List.getElem_cons_succ]
    refine wpTop.take 8 (v := ?_) rfl (by kernel_rfl) (by kernel_rfl) (by kernel_rfl) (by kernel_rfl) (fun _ _ _ h => h) (Or.inl ⟨by rfl, ?_⟩) (by assumption) ?_
    rotate_left
    · intro w hSw; (try dsimp only at hSw); go_simp; try (with_reducible rfl)
    try simp only [Act.put, List.setIfInBounds_toArray, List.set_cons_zero, List.set_cons_succ, List.getElem_toArray, List.getElem_cons_zero, List.getElem_cons_succ]
    refine wpTop.take 9 (v := ?_) rfl (by kernel_rfl) (by kernel_rfl) (by kernel_rfl) (by kernel_rfl) (fun _ _ _ h => h) (Or.inl ⟨by rfl, ?_⟩) (by assumption) ?_
    rotate_left
    · intro w hSw; (try dsimp only at hSw); go_simp; try (with_reducible rfl)
    try simp only [Act.put, List.setIfInBounds_toArray, List.set_cons_zero, List.set_cons_succ, List.getElem_toArray, List.getElem_cons_zero, List.getElem_cons_succ]
    refine wpTop.take 10 (v := ?_) rfl (by kernel_rfl) (by kernel_rfl) (by kernel_rfl) (by kernel_rfl) (fun _ _ _ h => h) (Or.inl ⟨by rfl, ?_⟩) (by assumption) ?_
    rotate_left
    · intro w hSw; (try dsimp only at hSw); go_simp; try (with_reducible rfl)
    try simp only [Act.put, List.setIfInBounds_toArray, List.set_cons_zero, List.set_cons_succ, List.getElem_toArray, List.getElem_cons_zero, List.getElem_cons_succ]
    refine wpTop.two 11 12 (by kernel_rfl) ?_ ?_
    · refine wpTop.go 11 rfl (fun K hK => ?_)
      go_simp
      refine hK.out _ _ (fun _ => HS _ (((Below.refl _ _).alloc (Nat.le_refl _) _).drew)) (fun hH => ?_)
      clear hK K
      have hHeld := hH (by decide)
      clear hH
      try simp only [Act.put, List.setIfInBounds_toArray, List.set_cons_zero, List.set_cons_succ, List.getElem_toArray, List.getElem_cons_zero, List.getElem_cons_succ]
      refine wpTop.one 12 rfl (by kernel_rfl) (fun K hK => ?_)
      go_simp
      refine hK.out _ _ (fun _ => HS _ ((((Below.refl _ _).alloc (Nat.le_refl _) _).alloc (by simp) _).drew)) (fun hH => ?_)
      clear hK K
      have hHeld := hH (by decide)
      clear hH
      try simp only [Act.put, List.setIfInBounds_toArray, List.set_cons_zero, List.set_cons_succ, List.getElem_toArray, List.getElem_cons_zero, List.getElem_cons_succ]
      refine wpTop.one 13 rfl (by kernel_rfl) (fun K hK => ?_)
      go_simp
      refine hK.out _ _ (fun _ => HS _ ((((Below.refl _ _).alloc (Nat.le_refl _) _).alloc (by simp) _).drew)) (fun hH => ?_)
      clear hK K
      have hHeld := hH (by decide)
      clear hH
      try simp only [Act.put, List.setIfInBounds_toArray, List.set_cons_zero, List.set_cons_succ, List.getElem_toArray, List.getElem_cons_zero, List.getElem_cons_succ]
      refine wpTop.one 14 rfl (by kernel_rfl) (fun K hK => ?_)
      go_simp
      refine hK.out _ _ (fun _ => HS _ ((((Below.refl _ _).alloc (Nat.le_refl _) _).alloc (by simp) _).drew)) (fun hH => ?_)
      clear hK K
      have hHeld := hH (by decide)
      clear hH
      try simp only [Act.put, List.setIfInBounds_toArray, List.set_cons_zero, List.set_cons_succ, List.getElem_toArray, List.getElem_cons_zero, List.getElem_cons_succ]
      refine wpTop.all (by kernel_rfl) ?_ _
      go_wp2_with fail
      go_meet
      exact ⟨_, _, rfl, rfl, JM.start _ _ _ _ K1 HZ.out⟩
    · refine wpTop.go 12 rfl (fun K hK => ?_)
      go_simp
      refine hK.out _ _ (fun _ => HS _ (((Below.refl _ _).alloc (Nat.le_refl _) _).drew)) (fun hH => ?_)
      clear hK K
      have hHeld := hH (by decide)
      clear hH
      try simp only [Act.put, List.setIfInBounds_toArray, List.set_cons_zero, List.set_cons_succ, List.getElem_toArray, List.getElem_cons_zero, List.getElem_cons_succ]
      refine wpTop.one 11 rfl (by kernel_rfl) (fun K hK => ?_)
      go_simp
      refine hK.out _ _ (fun _ => HS _ ((((Below.refl _ _).alloc (Nat.le_refl _) _).alloc (by simp) _).drew)) (fun hH => ?_)
      clear hK K
      have hHeld := hH (by decide)
      clear hH
      try simp only [Act.put, List.setIfInBounds_toArray, List.set_cons_zero, List.set_cons_succ, List.getElem_toArray, List.getElem_cons_zero, List.getElem_cons_succ]
      refine wpTop.one 13 rfl (by kernel_rfl) (fun K hK => ?_)
      go_simp
      refine hK.out _ _ (fun _ => HS _ ((((Below.refl _ _).alloc (Nat.le_refl _) _).alloc (by simp) _).drew)) (fun hH => ?_)
      clear hK K
      have hHeld := hH (by decide)
      clear hH
      try simp only [Act.put, List.setIfInBounds_toArray, List.set_cons_zero, List.set_cons_succ, List.getElem_toArray, List.getElem_cons_zero, List.getElem_cons_succ]
      refine wpTop.one 14 rfl (by kernel_rfl) (fun K hK => ?_)
      go_simp
      refine hK.out _ _ (fun _ => HS _ ((((Below.refl _ _).alloc (Nat.le_refl _) _).alloc (by simp) _).drew)) (fun hH => ?_)
      clear hK K
      have hHeld := hH (by decide)
      clear hH
      try simp only [Act.put, List.setIfInBounds_toArray, List.set_cons_zero, List.set_cons_succ, List.getElem_toArray, List.getElem_cons_zero, List.getElem_cons_succ]
      refine wpTop.all (by kernel_rfl) ?_ _
      go_wp2_with fail
      go_meet
      exact ⟨_, _, rfl, rfl, (JM.start _ _ _ _ K1 HZ.out).swap⟩
  case rest =>
    obtain ⟨g8, g9, rfl, rfl, J1⟩ := hcut
    clear HS a0 a1 hz1' HZ K1
    have a0 := J1.pb.a0
    have a1 := J1.pb.a1
    have hsz := J1.size
    have hl8 := J1.l8
    have hl9 := J1.l9
    have hh8 := J1.h8
    have hh9 := J1.h9
    go_upto_region 3 with fail
    go_cut [] (fun wy => JM w W H A L.length c g8 g9 at_ H none 0 [] (W - at_) H none 0 [] wy)
    case first =>
      have ne := J1.ne
      have n8 : w.heap.size ≠ g8 := by omega
      have n9 : w.heap.size ≠ g9 := by omega
      have m8 := n8.symm
      have m9 := n9.symm
      obtain ⟨la, p0, p1, p2⟩ := id J1.a
      obtain ⟨lb, q0, q1, q2⟩ := id J1.b
      have u0 := J1.f8 0
      have u1 := J1.f8 1
      have u2 := J1.f8 2
      have z0 := J1.f9 0
      have z1 := J1.f9 1
      have z2 := J1.f9 2
      refine wp_region_top 13 (fun w' => w'.cell? ⟨w.heap.size, 0, none⟩ = some (.int .i64 W) ∧ w'.cell? ⟨w.heap.size, 1, none⟩ = some (.int .i64 H)) (by kernel_rfl) ⟨a0, a1⟩ (fun hHeld => ?_)
      refine wpTop.take 0 (v := ?_) rfl (by kernel_rfl) (by kernel_rfl) (by kernel_rfl) (by kernel_rfl) (fun _ _ _ h => h) (Or.inl ⟨by rfl, ?_⟩) (by assumption) ?_
      rotate_left
      · intro w hSw; (try dsimp only at hSw); go_simp; try (with_reducible rfl)
      try simp only [Act.put, List.setIfInBounds_toArray, List.set_cons_zero, List.set_cons_succ, List.getElem_toArray, List.getElem_cons_zero, List.getElem_cons_succ]
      refine wpTop.take 1 (v := ?_) rfl (by kernel_rfl) (by kernel_rfl) (by kernel_rfl) (by kernel_rfl) (fun _ _ _ h => h) (Or.inl ⟨by rfl, ?_⟩) (by assumption) ?_
      rotate_left
      · intro w hSw; (try dsimp only at hSw); go_simp; try (with_reducible rfl)
      try simp only [Act.put, List.setIfInBounds_toArray, List.set_cons_zero, List.set_cons_succ, List.getElem_toArray, List.getElem_cons_zero, List.getElem_cons_succ]
      refine wpTop.take 2 (v := ?_) rfl (by kernel_rfl) (by kernel_rfl) (by kernel_rfl) (by kernel_rfl) (fun _ _ _ h => h) (Or.inl ⟨by rfl, ?_⟩) (by assumption) ?_
      rotate_left
      · intro w hSw; (try dsimp only at hSw); go_simp; try (with_reducible rfl)
      try simp only [Act.put, List.setIfInBounds_toArray, List.set_cons_zero, List.set_cons_succ, List.getElem_toArray, List.getElem_cons_zero, List.getElem_cons_succ]
      refine wpTop.take 3 (v := ?_) rfl (by kernel_rfl) (by kernel_rfl) (by kernel_rfl) (by kernel_rfl) (fun _ _ _ h => h) (Or.inl ⟨by rfl, ?_⟩) (by assumption) ?_
      rotate_left
      · intro w hSw; (try dsimp only at hSw); go_simp; try (with_reducible rfl)
      try simp only [Act.put, List.setIfInBounds_toArray, List.set_cons_zero, List.set_cons_succ, List.getElem_toArray, List.getElem_cons_zero, List.getElem_cons_succ]
      refine wpTop.take 4 (v := ?_) rfl (by kernel_rfl) (by kernel_rfl) (by kernel_rfl) (by kernel_rfl) (fun _ _ _ h => h) (Or.inl ⟨by rfl, ?_⟩) (by assumption) ?_
      rotate_left
      · intro w hSw; (try dsimp only at hSw); go_simp; try (with_reducible rfl)
      try simp only [Act.put, List.setIfInBounds_toArray, List.set_cons_zero, List.set_cons_succ, List.getElem_toArray, List.getElem_cons_zero, List.getElem_cons_succ]
      refine wpTop.take 5 (v := ?_) rfl (by kernel_rfl) (by kernel_rfl) (by kernel_rfl) (by kernel_rfl) (fun _ _ _ h => h) (Or.inl ⟨by rfl, ?_⟩) (by assumption) ?_
      rotate_left
      · intro w hSw; (try dsimp only at hSw); go_simp; try (with_reducible rfl)
      try simp only [Act.put, List.setIfInBounds_toArray, List.set_cons_zero, List.set_cons_succ, List.getElem_toArray, List.getElem_cons_zero, List.getElem_cons_succ]
      refine wpTop.take 6 (v := ?_) rfl (by kernel_rfl) (by kernel_rfl) (by kernel_rfl) (by kernel_rfl) (fun _ _ _ h => h) (Or.inl ⟨by rfl, ?_⟩) (by assumption) ?_
      rotate_left
      · intro w hSw; (try dsimp only at hSw); go_simp; try (with_reducible rfl)
      try simp only [Act.put, List.setIfInBounds_toArray, List.set_cons_zero, List.set_cons_succ, List.getElem_toArray, List.getElem_cons_zero, List.getElem_cons_succ]
      refine wpTop.take 7 (v := ?_) rfl (by kernel_rfl) (by kernel_rfl) (by kernel_rfl) (by kernel_rfl) (fun _ _ _ h => h) (Or.inl ⟨by rfl, ?_⟩) (by assumption) ?_
      rotate_left
      · intro w hSw; (try dsimp only at hSw); go_simp; try (with_reducible rfl)
      try simp only [Act.put, List.setIfInBounds_toArray, List.set_cons_zero, List.set_cons_succ, List.getElem_toArray, List.getElem_cons_zero, List.getElem_cons_succ]
      refine wpTop.take 8 (v := ?_) rfl (by kernel_rfl) (by kernel_rfl) (by kernel_rfl) (by kernel_rfl) (fun _ _ _ h => h) (Or.inl ⟨by rfl, ?_⟩) (by assumption) ?_
      rotate_left
      · intro w hSw; (try dsimp only at hSw); go_simp; try (with_reducible rfl)
      try simp only [Act.put, List.setIfInBounds_toArray, List.set_cons_zero, List.set_cons_succ, List.getElem_toArray, List.getElem_cons_zero, List.getElem_cons_succ]
      refine wpTop.take 9 (v := ?_) rfl (by kernel_rfl) (by kernel_rfl) (by kernel_rfl) (by kernel_rfl) (fun _ _ _ h => h) (Or.inl ⟨by rfl, ?_⟩) (by assumption) ?_
      rotate_left
      · intro w hSw; (try dsimp only at hSw); go_simp; try (with_reducible rfl)
      try simp only [Act.put, List.setIfInBounds_toArray, List.set_cons_zero, List.set_cons_succ, List.getElem_toArray, List.getElem_cons_zero, List.getElem_cons_succ]
      refine wpTop.take 10 (v := ?_) rfl (by kernel_rfl) (by kernel_rfl) (by kernel_rfl) (by kernel_rfl) (fun _ _ _ h => h) (Or.inl ⟨by rfl, ?_⟩) (by assumption) ?_
      rotate_left
      · intro w hSw; (try dsimp only at hSw); go_simp; try (with_reducible rfl)
      try simp only [Act.put, List.setIfInBounds_toArray, List.set_cons_zero, List.set_cons_succ, List.getElem_toArray, List.getElem_cons_zero, List.getElem_cons_succ]
      refine wpTop.one 11 rfl (by kernel_rfl) (fun K hK => ?_)
      go_simp
      refine hK.out _ _ (fun _ => (by constructor <;> simp [go_sem, a0, a1, n8, n9, m8, m9])) (fun hH => ?_)
      clear hK K
      have hHeld := hH (by decide)
      clear hH
      try simp only [Act.put, List.setIfInBounds_toArray, List.set_cons_zero, List.set_cons_succ, List.getElem_toArray, List.getElem_cons_zero, List.getElem_cons_succ]
      refine wpTop.one 12 rfl (by kernel_rfl) (fun K hK => ?_)
      go_simp
      refine hK.out _ _ (fun _ => (by constructor <;> simp [go_sem, a0, a1, n8, n9, m8, m9])) (fun hH => ?_)
      clear hK K
      have hHeld := hH (by decide)
      clear hH
      try simp only [Act.put, List.setIfInBounds_toArray, List.set_cons_zero, List.set_cons_succ, List.getElem_toArray, List.getElem_cons_zero, List.getElem_cons_succ]
      refine wpTop.all (by kernel_rfl) ?_ _
      go_wp2_with fail
      go_meet
      exact (J1.nums at_ H (W - at_) H).next ((Below.refl _ _).drew)
    clear J1 a0 a1 hsz hl8 hl9 hh8 hh9
    rename_i wy
    have J1 := hcut
    have hl8 := J1.l8
    have hl9 := J1.l9
    have hh8 := J1.h8
    have hh9 := J1.h9
    have ha2 := J1.pb.a2
    have hsz := J1.size
    have hnn : w.heap.size < wc.heap.size := by omega
    clear hsz
    go_wp2_with fail
    clear ha2 hnn
    go_loopw [38] (fun iv wr => ∃ j : Nat, j ≤ L.length ∧ iv = .int .i64 j ∧ ∃ A1 c1 A2 c2, JM w W H A L.length c g8 g9 (at_) (H) A1 c1 ((L.take j).filter fun s => decide (s.x < at_)) (W - at_) (H) A2 c2 (((L.take j).filter fun s => decide (at_ ≤ s.x)).map (J.mvS (-at_) 0)) wr) (fun i _ => L.length - (intOf i).toNat)
    case atStart => exact ⟨0, Nat.zero_le _, rfl, none, 0, none, 0, by simpa using J1⟩
    case round =>
      obtain ⟨j, hj, rfl, A1, c1, A2, c2, K⟩ := hrel
      clear J1
      by_cases hlt : j < L.length
      · obtain ⟨s, hs⟩ : ∃ s, L[j]? = some s := ⟨_, List.getElem?_eq_getElem hlt⟩
        have hLr := (HL.out.below K.pb.below).mono K.pb.below.size
        obtain ⟨b, off, rfl, hb, x0, x1, x2⟩ := hLr j s hs
        have jz : (0 : Int) ≤ (j : Int) := by omega
        have jl : (j : Int) < (L.length : Int) := by omega
        have hss := hsb s (List.mem_of_getElem? hs)
        have hF1 := filt_succ (p := fun s => decide (s.x < at_)) L j s hs
        have hF2 := fm_succ (p := fun s => decide (at_ ≤ s.x)) (m := (J.mvS (-at_) 0)) L j s hs
        have hk1 : ((L.take j).filter fun s => decide (s.x < at_)).length ≤ 60 := Nat.le_trans (List.length_filter_le _ _) (by rw [List.length_take]; have := HN.out; omega)
        have hk2 : (((L.take j).filter fun s => decide (at_ ≤ s.x)).map ((J.mvS (-at_) 0))).length ≤ 60 := by rw [List.length_map]; exact Nat.le_trans (List.length_filter_le _ _) (by rw [List.length_take]; have := HN.out; omega)
        obtain ⟨R1, hR1⟩ : ∃ R, ((L.take j).filter fun s => decide (s.x < at_)) = R := ⟨_, rfl⟩
        obtain ⟨R2, hR2⟩ : ∃ R, (((L.take j).filter fun s => decide (at_ ≤ s.x)).map ((J.mvS (-at_) 0))) = R := ⟨_, rfl⟩
        rw [hR1] at K hk1 hF1
        rw [hR2] at K hk2 hF2
        have HF1 := Lib.hid hF1
        have HF2 := Lib.hid hF2
        clear hs hF1 hF2 hR1 hR2 hLr hsb
        have HK := Lib.hid K
        clear K
        have ws : IntKind.i64.wrap (s.x - at_) = s.x - at_ := IntWalk.i64_in _ (by omega)
        by_cases hp : at_ ≤ s.x
        · have d1 : decide (s.x < at_) = false := by simp; omega
          have d2 : decide (at_ ≤ s.x) = true := by simpa using hp
          have e1 := HF1.out.trans (by rw [if_neg (by simp [d1]), List.append_nil])
          have e2 := HF2.out.trans (by rw [if_pos (by simpa using hp), show (J.mvS (-at_) 0) s = (⟨s.x - at_, s.y, s.d⟩ : Sq) by simp [J.mvS]; try omega])
          have E1 := Lib.hid e1
          have E2 := Lib.hid e2
          clear e1 e2 d1 d2 HF1 HF2
          have hbl : R2.length + 1 ≤ maxLen := by unfold maxLen; omega
          have hby : (R2.length + 1) * 24 ≤ 140737488355328 := by omega
          have b2 := HK.out.b.c2
          have t2 := HK.out.f9 2
          have hown := HK.out.o2
          have hlt := HK.out.b.lt
          have hn30 := HN.out
          have hzr := HK.out.size
          have hg8 := HK.out.h8
          have hg9 := HK.out.h9
          go_wp2_with (at_builtin; refine app_list rfl _ _ _ rfl (w.heap.size + 5) 65 i0 (.agg #[.int .i64 0, .int .i64 0, .int .i64 0]) 3 24 Try.underlying27 hi hz0 hz1 hz2 rfl (by decide) (.slice A2 R2.length c2) R2.length _ rfl ((hown.alloc _).alloc _) (some ⟨wr.heap.size + 1, 0, none⟩) 1 1 [.int .i64 (s.x - at_), .int .i64 s.y, .int .i64 s.d] rfl rfl (.inr ⟨_, rfl, new3' _ _ _ _ _ _⟩) (one3 _ _ _) hbl hby (by simp; omega) ?_; intro v' w6 hown6 hgrow hv6; obtain ⟨A3, c3, rfl⟩ := own_val hown6; have hB6 : Below (w.heap.size + 5) wr w6 := (((Below.refl _ _).alloc hzr _).alloc (by simp; omega) _).grown hgrow (by simp; omega) (fun kk e => (hown.lt kk e).1); have b3 := (hB6.cell (p := ⟨g9, 2, none⟩) (by show g9 < _; omega)).trans b2; have t3 := (hB6.frozen (p := ⟨g9, 2, none⟩) (by show g9 < _; omega)).trans t2; clear b2 t2)
          have K6 := (HK.out.next (((Below.refl _ _).alloc (Nat.le_refl _) (.cells #[.int .i64 s.x, .int .i64 s.y, .int .i64 s.d] 65)).alloc (by simp) (.cells #[.int .i64 (s.x - at_), .int .i64 s.y, .int .i64 s.d] 65))).put (R3 := R2 ++ [(⟨s.x - at_, s.y, s.d⟩ : Sq)]) hgrow (by rw [flat_app, List.length_append]; exact hown6) (by rw [List.length_append]; exact hv6)
          go_roundw
          case rel => exact ⟨j + 1, by omega, by go_num, A1, c1, A3, c3, by rw [E1.out, E2.out]; simpa using K6⟩
          case measure => simp [intOf]; omega
        · have d1 : decide (s.x < at_) = true := by simp; omega
          have d2 : decide (at_ ≤ s.x) = false := by simpa using hp
          have e1 := HF1.out.trans (by rw [if_pos (by simpa using d1)])
          have e2 := HF2.out.trans (by rw [if_neg (by simp [d2]), List.append_nil])
          have E1 := Lib.hid e1
          have E2 := Lib.hid e2
          clear e1 e2 d1 d2 HF1 HF2
          have hbl : R1.length + 1 ≤ maxLen := by unfold maxLen; omega
          have hby : (R1.length + 1) * 24 ≤ 140737488355328 := by omega
          have b2 := HK.out.a.c2
          have t2 := HK.out.f8 2
          have hown := HK.out.o1
          have hlt := HK.out.a.lt
          have hn30 := HN.out
          have hzr := HK.out.size
          have hg8 := HK.out.h8
          have hg9 := HK.out.h9
          go_wp2_with (at_builtin; refine app_list rfl _ _ _ rfl (w.heap.size + 5) 65 i0 (.agg #[.int .i64 0, .int .i64 0, .int .i64 0]) 3 24 Try.underlying27 hi hz0 hz1 hz2 rfl (by decide) (.slice A1 R1.length c1) R1.length _ rfl ((hown.alloc _).alloc _) (some ⟨wr.heap.size + 1, 0, none⟩) 1 1 [.int .i64 s.x, .int .i64 s.y, .int .i64 s.d] rfl rfl (.inr ⟨_, rfl, new3' _ _ _ _ _ _⟩) (one3 _ _ _) hbl hby (by simp; omega) ?_; intro v' w6 hown6 hgrow hv6; obtain ⟨A3, c3, rfl⟩ := own_val hown6; have hB6 : Below (w.heap.size + 5) wr w6 := (((Below.refl _ _).alloc hzr _).alloc (by simp; omega) _).grown hgrow (by simp; omega) (fun kk e => (hown.lt kk e).1); have b3 := (hB6.cell (p := ⟨g8, 2, none⟩) (by show g8 < _; omega)).trans b2; have t3 := (hB6.frozen (p := ⟨g8, 2, none⟩) (by show g8 < _; omega)).trans t2; clear b2 t2)
          have K6 := ((HK.out.next (((Below.refl _ _).alloc (Nat.le_refl _) (.cells #[.int .i64 s.x, .int .i64 s.y, .int .i64 s.d] 65)).alloc (by simp) (.cells #[.int .i64 s.x, .int .i64 s.y, .int .i64 s.d] 65))).swap.put (R3 := R1 ++ [s]) hgrow (by rw [flat_app, List.length_append]; exact hown6) (by rw [List.length_append]; exact hv6)).swap
          go_roundw
          case rel => exact ⟨j + 1, by omega, by go_num, A3, c3, A2, c2, by rw [E1.out, E2.out]; simpa using K6⟩
          case measure => simp [intOf]; omega
      · obtain rfl : j = L.length := by omega
        rw [List.take_of_length_le (Nat.le_refl _)] at K
        obtain ⟨M1, hM1⟩ : ∃ M, (L.filter fun s => decide (s.x < at_)) = M := ⟨_, rfl⟩
        obtain ⟨M2, hM2⟩ : ∃ M, ((L.filter fun s => decide (at_ ≤ s.x)).map ((J.mvS (-at_) 0))) = M := ⟨_, rfl⟩
        rw [hM1, hM2] at K
        have HM1 := Lib.hid hM1
        have HM2 := Lib.hid hM2
        clear hM1 hM2
        have HK := Lib.hid K
        obtain ⟨la, p0, p1, p2⟩ := id K.a
        obtain ⟨lb, q0, q1, q2⟩ := id K.b
        have ⟨r0, r1, r2⟩ := K.pb.r 1 (.inl rfl)
        have ⟨s0, s1, s2⟩ := K.pb.r 2 (.inr rfl)
        have t0 := K.pb.f 1 0 (.inl rfl)
        have t1 := K.pb.f 1 1 (.inl rfl)
        have t2 := K.pb.f 1 2 (.inl rfl)
        have v0 := K.pb.f 2 0 (.inr rfl)
        have v1 := K.pb.f 2 1 (.inr rfl)
        have v2 := K.pb.f 2 2 (.inr rfl)
        have hzr := K.size
        clear K
        go_wp2_with fail
        have n8 : w.heap.size + 1 ≠ g8 := by omega
        have n9 : w.heap.size + 1 ≠ g9 := by omega
        have n8' : w.heap.size + 1 + 1 ≠ g8 := by omega
        have n9' : w.heap.size + 1 + 1 ≠ g9 := by omega
        have m8 := n8.symm
        have m9 := n9.symm
        have m8' := n8'.symm
        have m9' := n9'.symm
        refine wp_region_top 4 (fun w' => w'.cell? ⟨g8, 0, none⟩ = some (.int .i64 (at_)) ∧ w'.cell? ⟨g8, 1, none⟩ = some (.int .i64 (H)) ∧ w'.cell? ⟨g8, 2, none⟩ = some (.slice A1 M1.length c1) ∧ w'.cell? ⟨g9, 0, none⟩ = some (.int .i64 (W - at_)) ∧ w'.cell? ⟨g9, 1, none⟩ = some (.int .i64 (H)) ∧ w'.cell? ⟨g9, 2, none⟩ = some (.slice A2 M2.length c2)) (by kernel_rfl) ⟨p0, p1, p2, q0, q1, q2⟩ (fun hHeld => ?_)
        refine wpTop.take 0 (v := ?_) rfl (by kernel_rfl) (by kernel_rfl) (by kernel_rfl) (by kernel_rfl) (fun _ _ _ h => h) (Or.inl ⟨by rfl, ?_⟩) (by assumption) ?_
        rotate_left
        · intro w hSw; (try dsimp only at hSw); go_simp; try (with_reducible rfl)
        try simp only [Act.put, List.setIfInBounds_toArray, List.set_cons_zero, List.set_cons_succ, List.getElem_toArray, List.getElem_cons_zero, List.getElem_cons_succ]
        refine wpTop.take 1 (v := ?_) rfl (by kernel_rfl) (by kernel_rfl) (by kernel_rfl) (by kernel_rfl) (fun _ _ _ h => h) (Or.inl ⟨by rfl, ?_⟩) (by assumption) ?_
        rotate_left
        · intro w hSw; (try dsimp only at hSw); go_simp; try (with_reducible rfl)
        try simp only [Act.put, List.setIfInBounds_toArray, List.set_cons_zero, List.set_cons_succ, List.getElem_toArray, List.getElem_cons_zero, List.getElem_cons_succ]
        refine wpTop.one 2 rfl (by kernel_rfl) (fun K hK => ?_)
        go_simp
        refine hK.out _ _ (fun _ => (by refine ⟨?_, ?_, ?_, ?_, ?_, ?_⟩ <;> simp [go_sem, p0, p1, p2, q0, q1, q2, n8, n9, m8, m9, n8', n9', m8', m9'])) (fun hH => ?_)
        clear hK K
        have hHeld := hH (by decide)
        clear hH
        try simp only [Act.put, List.setIfInBounds_toArray, List.set_cons_zero, List.set_cons_succ, List.getElem_toArray, List.getElem_cons_zero, List.getElem_cons_succ]
        refine wpTop.one 3 rfl (by kernel_rfl) (fun K hK => ?_)
        go_simp
        refine hK.out _ _ (fun _ => (by refine ⟨?_, ?_, ?_, ?_, ?_, ?_⟩ <;> simp [go_sem, p0, p1, p2, q0, q1, q2, n8, n9, m8, m9, n8', n9', m8', m9'])) (fun hH => ?_)
        clear hK K
        have hHeld := hH (by decide)
        clear hH
        try simp only [Act.put, List.setIfInBounds_toArray, List.set_cons_zero, List.set_cons_succ, List.getElem_toArray, List.getElem_cons_zero, List.getElem_cons_succ]
        refine wpTop.all (by kernel_rfl) ?_ _
        go_wp2_with fail
        have O1 := HK.out.o1
        have O2 := HK.out.o2
        have P1 := own_base (base' := w.heap.size) (own3 (g := w.heap.size + 1 + 1) (x := .int .i64 (W - at_)) (y := .int .i64 (H)) (z := .slice A2 M2.length c2) (own3 (g := w.heap.size + 1) (x := .int .i64 (at_)) (y := .int .i64 (H)) (z := .slice A1 M1.length c1) O1 (by omega)) (by omega)).drew (by omega)
        have P2 := own_base (base' := w.heap.size) (own3 (g := w.heap.size + 1 + 1) (x := .int .i64 (W - at_)) (y := .int .i64 (H)) (z := .slice A2 M2.length c2) (own3 (g := w.heap.size + 1) (x := .int .i64 (at_)) (y := .int .i64 (H)) (z := .slice A1 M1.length c1) O2 (by omega)) (by omega)).drew (by omega)
        have s0' : wr.cell? ⟨w.heap.size + 1 + 1, 0, none⟩ = some (.int .i64 0) := s0
        have s1' : wr.cell? ⟨w.heap.size + 1 + 1, 1, none⟩ = some (.int .i64 0) := s1
        have s2' : wr.cell? ⟨w.heap.size + 1 + 1, 2, none⟩ = some (.slice none 0 0) := s2
        have hB := bel3 (g := w.heap.size + 1 + 1) (x := .int .i64 (W - at_)) (y := .int .i64 (H)) (z := .slice A2 M2.length c2) (bel3 (g := w.heap.size + 1) (x := .int .i64 (at_)) (y := .int .i64 (H)) (z := .slice A1 M1.length c1) HK.out.pb.below (by omega)) (by omega)
        refine bodyPost_ret (v := .tuple #[.agg #[.int .i64 (at_), .int .i64 (H), .slice A1 M1.length c1], .agg #[.int .i64 (W - at_), .int .i64 (H), .slice A2 M2.length c2]]) (by simp [results, Try.results75, go_sem, r0, r1, r2, s0', s1', s2']) rfl ?_
        show RetJ w (at_) (H) (L.filter fun s => decide (s.x < at_)) (W - at_) (H) ((L.filter fun s => decide (at_ ≤ s.x)).map ((J.mvS (-at_) 0))) _ _
        rw [HM1.out, HM2.out]
        exact ⟨A1, c1, A2, c2, rfl, P1, P2, HK.out.dis, hB.drew⟩
set_option maxRecDepth 100000 in
set_option maxHeartbeats 16000000 in
theorem joPartAcross_any (W H at_ : Int) (A : Option Addr) (n c : Nat) (L : List Sq) (w : World) (hl : L.length = n) (hL : SqsAt w w.heap.size A L) (hG : Good W H L) (ha : 0 ≤ at_ ∧ at_ ≤ H) :
    Calls Try.prog 75 #[.agg #[.int .i64 W, .int .i64 H, .slice A n c], .int .i64 at_, .bool false] w (RetJ w (W) (at_) (J.paY at_ L) (W) (H - at_) (J.pbY at_ L)) := by
  subst hl
  obtain ⟨i0, hi, hz0, hz1, hz2⟩ := info_parts infoSq
  have hW := hG.1
  have hH := hG.2.1
  have hn := (good_fill hG).n.2
  have hsb : ∀ s ∈ L, (0 ≤ s.x ∧ s.x ≤ 500) ∧ (0 ≤ s.y ∧ s.y ≤ 500) ∧ (1 ≤ s.d ∧ s.d ≤ 500) := fun s hs => by
    have := (good_fill hG).within s hs
    unfold Within at this
    omega
  have hn60 : L.length ≤ 30 := hn
  have wW : IntKind.i64.wrap (W - at_) = W - at_ := IntWalk.i64_in _ (by omega)
  have wH : IntKind.i64.wrap (H - at_) = H - at_ := IntWalk.i64_in _ (by omega)
  have K1 := PB.start w W H A L.length c
  obtain ⟨W1, hW1⟩ : ∃ x, x = (((w.alloc (.cells #[.int .i64 W, .int .i64 H, .slice A L.length c] 29)).alloc (.cells #[.int .i64 0, .int .i64 0, .slice none 0 0] 29)).alloc (.cells #[.int .i64 0, .int .i64 0, .slice none 0 0] 29)) := ⟨_, rfl⟩
  rw [← hW1] at K1
  have HG := Lib.hid hG
  have HL := Lib.hid hL
  have HN := Lib.hid hn60
  clear hG hL hn hn60
  go_enter Try.func75, Try.ntmps75
  go_upto_region 1 with fail
  rw [← hW1]
  have HZ := Lib.hid (show W1.heap.size = w.heap.size + 3 by rw [hW1]; simp)
  clear hW1
  have a0 := K1.a0
  have a1 := K1.a1
  have hz1' := K1.size
  have HS : ∀ w' : World, Below W1.heap.size W1 w' → w'.cell? ⟨w.heap.size, 0, none⟩ = some (.int .i64 W) ∧ w'.cell? ⟨w.heap.size, 1, none⟩ = some (.int .i64 H) := fun w' hb => ⟨(hb.cell (p := ⟨_, _, none⟩) (by show w.heap.size < _; omega)).trans a0, (hb.cell (p := ⟨_, _, none⟩) (by show w.heap.size < _; omega)).trans a1⟩
  go_cut [8, 9] (fun p8 p9 wx => ∃ g8 g9, p8 = .pointer (some ⟨g8, 0, none⟩) ∧ p9 = .pointer (some ⟨g9, 0, none⟩) ∧ JM w W H A L.length c g8 g9 W at_ none 0 [] W (H - at_) none 0 [] wx)
  case first =>
    refine wp_region_top 15 (fun w' => w'.cell? ⟨w.heap.size, 0, none⟩ = some (.int .i64 W) ∧ w'.cell? ⟨w.heap.size, 1, none⟩ = some (.int .i64 H)) (by kernel_rfl) (HS _ ((Below.refl _ _).drew)) (fun hHeld => ?_)
    refine wpTop.take 0 (v := ?_) rfl (by kernel_rfl) (by kernel_rfl) (by kernel_rfl) (by kernel_rfl) (fun _ _ _ h => h) (Or.inl ⟨by rfl, ?_⟩) (by assumption) ?_
    rotate_left
    · intro w hSw; (try dsimp only at hSw); go_simp; try (with_reducible rfl)
    try simp only [Act.put, List.setIfInBounds_toArray, List.set_cons_zero, List.set_cons_succ, List.getElem_toArray, List.getElem_cons_zero, List.getElem_cons_succ]
    refine wpTop.take 1 (v := ?_) rfl (by kernel_rfl) (by kernel_rfl) (by kernel_rfl) (by kernel_rfl) (fun _ _ _ h => h) (Or.inl ⟨by rfl, ?_⟩) (by assumption) ?_
    rotate_left
    · intro w hSw; (try dsimp only at hSw); go_simp; try (with_reducible rfl)
    try simp only [Act.put, List.setIfInBounds_toArray, List.set_cons_zero, List.set_cons_succ, List.getElem_toArray, List.getElem_cons_zero, List.getElem_cons_succ]
    refine wpTop.take 2 (v := ?_) rfl (by kernel_rfl) (by kernel_rfl) (by kernel_rfl) (by kernel_rfl) (fun _ _ _ h => h) (Or.inl ⟨by rfl, ?_⟩) (by assumption) ?_
    rotate_left
    · intro w hSw; (try dsimp only at hSw); go_simp; try (with_reducible rfl)
    try simp only [Act.put, List.setIfInBounds_toArray, List.set_cons_zero, List.set_cons_succ, List.getElem_toArray, List.getElem_cons_zero, List.getElem_cons_succ]
    refine wpTop.take 3 (v := ?_) rfl (by kernel_rfl) (by kernel_rfl) (by kernel_rfl) (by kernel_rfl) (fun _ _ _ h => h) (Or.inl ⟨by rfl, ?_⟩) (by assumption) ?_
    rotate_left
    · intro w hSw; (try dsimp only at hSw); go_simp; try (with_reducible rfl)
    try simp only [Act.put, List.setIfInBounds_toArray, List.set_cons_zero, List.set_cons_succ, List.getElem_toArray, List.getElem_cons_zero, List.getElem_cons_succ]
    refine wpTop.take 4 (v := ?_) rfl (by kernel_rfl) (by kernel_rfl) (by kernel_rfl) (by kernel_rfl) (fun _ _ _ h => h) (Or.inl ⟨by rfl, ?_⟩) (by assumption) ?_
    rotate_left
    · intro w hSw; (try dsimp only at hSw); go_simp; try (with_reducible rfl)
    try simp only [Act.put, List.setIfInBounds_toArray, List.set_cons_zero, List.set_cons_succ, List.getElem_toArray, List.getElem_cons_zero, List.getElem_cons_succ]
    refine wpTop.take 5 (v := ?_) rfl (by kernel_rfl) (by kernel_rfl) (by kernel_rfl) (by kernel_rfl) (fun _ _ _ h => h) (Or.inl ⟨by rfl, ?_⟩) (by assumption) ?_
    rotate_left
    · intro w hSw; (try dsimp only at hSw); go_simp; try (with_reducible rfl)
    try simp only [Act.put, List.setIfInBounds_toArray, List.set_cons_zero, List.set_cons_succ, List.getElem_toArray, List.getElem_cons_zero, List.getElem_cons_succ]
    refine wpTop.take 6 (v := ?_) rfl (by kernel_rfl) (by kernel_rfl) (by kernel_rfl) (by kernel_rfl) (fun _ _ _ h => h) (Or.inl ⟨by rfl, ?_⟩) (by assumption) ?_
    rotate_left
    · intro w hSw; (try dsimp only at hSw); go_simp; try (with_reducible rfl)
    try simp only [Act.put, List.setIfInBounds_toArray, List.set_cons_zero, List.set_cons_succ, List.getElem_toArray, List.getElem_cons_zero, List.getElem_cons_succ]
    refine wpTop.take 7 (v := ?_) rfl (by kernel_rfl) (by kernel_rfl) (by kernel_rfl) (by kernel_rfl) (fun _ _ _ h => h) (Or.inl ⟨by rfl, ?_⟩) (by assumption) ?_
    rotate_left
    · intro w hSw; (try dsimp only at hSw); go_simp; try (with_reducible rfl)
    try simp only [Act.put, List.setIfInBounds_toArray, List.set_cons_zero, List.set_cons_succ, List.getElem_toArray, List.getElem_cons_zero, List.getElem_cons_succ]
    refine wpTop.take 8 (v := ?_) rfl (by kernel_rfl) (by kernel_rfl) (by kernel_rfl) (by kernel_rfl) (fun _ _ _ h => h) (Or.inl ⟨by rfl, ?_⟩) (by assumption) ?_
    rotate_left
    · intro w hSw; (try dsimp only at hSw); go_simp; try (with_reducible rfl)
    try simp only [Act.put, List.setIfInBounds_toArray, List.set_cons_zero, List.set_cons_succ, List.getElem_toArray, List.getElem_cons_zero, List.getElem_cons_succ]
    refine wpTop.take 9 (v := ?_) rfl (by kernel_rfl) (by kernel_rfl) (by kernel_rfl) (by kernel_rfl) (fun _ _ _ h => h) (Or.inl ⟨by rfl, ?_⟩) (by assumption) ?_
    rotate_left
    · intro w hSw; (try dsimp only at hSw); go_simp; try (with_reducible rfl)
    try simp only [Act.put, List.setIfInBounds_toArray, List.set_cons_zero, List.set_cons_succ, List.getElem_toArray, List.getElem_cons_zero, List.getElem_cons_succ]
    refine wpTop.take 10 (v := ?_) rfl (by kernel_rfl) (by kernel_rfl) (by kernel_rfl) (by kernel_rfl) (fun _ _ _ h => h) (Or.inl ⟨by rfl, ?_⟩) (by assumption) ?_
    rotate_left
    · intro w hSw; (try dsimp only at hSw); go_simp; try (with_reducible rfl)
    try simp only [Act.put, List.setIfInBounds_toArray, List.set_cons_zero, List.set_cons_succ, List.getElem_toArray, List.getElem_cons_zero, List.getElem_cons_succ]
    refine wpTop.two 11 12 (by kernel_rfl) ?_ ?_
    · refine wpTop.go 11 rfl (fun K hK => ?_)
      go_simp
      refine hK.out _ _ (fun _ => HS _ (((Below.refl _ _).alloc (Nat.le_refl _) _).drew)) (fun hH => ?_)
      clear hK K
      have hHeld := hH (by decide)
      clear hH
      try simp only [Act.put, List.setIfInBounds_toArray, List.set_cons_zero, List.set_cons_succ, List.getElem_toArray, List.getElem_cons_zero, List.getElem_cons_succ]
      refine wpTop.one 12 rfl (by kernel_rfl) (fun K hK => ?_)
      go_simp
      refine hK.out _ _ (fun _ => HS _ ((((Below.refl _ _).alloc (Nat.le_refl _) _).alloc (by simp) _).drew)) (fun hH => ?_)
      clear hK K
      have hHeld := hH (by decide)
      clear hH
      try simp only [Act.put, List.setIfInBounds_toArray, List.set_cons_zero, List.set_cons_succ, List.getElem_toArray, List.getElem_cons_zero, List.getElem_cons_succ]
      refine wpTop.one 13 rfl (by kernel_rfl) (fun K hK => ?_)
      go_simp
      refine hK.out _ _ (fun _ => HS _ ((((Below.refl _ _).alloc (Nat.le_refl _) _).alloc (by simp) _).drew)) (fun hH => ?_)
      clear hK K
      have hHeld := hH (by decide)
      clear hH
      try simp only [Act.put, List.setIfInBounds_toArray, List.set_cons_zero, List.set_cons_succ, List.getElem_toArray, List.getElem_cons_zero, List.getElem_cons_succ]
      refine wpTop.one 14 rfl (by kernel_rfl) (fun K hK => ?_)
      go_simp
      refine hK.out _ _ (fun _ => HS _ ((((Below.refl _ _).alloc (Nat.le_refl _) _).alloc (by simp) _).drew)) (fun hH => ?_)
      clear hK K
      have hHeld := hH (by decide)
      clear hH
      try simp only [Act.put, List.setIfInBounds_toArray, List.set_cons_zero, List.set_cons_succ, List.getElem_toArray, List.getElem_cons_zero, List.getElem_cons_succ]
      refine wpTop.all (by kernel_rfl) ?_ _
      go_wp2_with fail
      go_meet
      exact ⟨_, _, rfl, rfl, JM.start _ _ _ _ K1 HZ.out⟩
    · refine wpTop.go 12 rfl (fun K hK => ?_)
      go_simp
      refine hK.out _ _ (fun _ => HS _ (((Below.refl _ _).alloc (Nat.le_refl _) _).drew)) (fun hH => ?_)
      clear hK K
      have hHeld := hH (by decide)
      clear hH
      try simp only [Act.put, List.setIfInBounds_toArray, List.set_cons_zero, List.set_cons_succ, List.getElem_toArray, List.getElem_cons_zero, List.getElem_cons_succ]
      refine wpTop.one 11 rfl (by kernel_rfl) (fun K hK => ?_)
      go_simp
      refine hK.out _ _ (fun _ => HS _ ((((Below.refl _ _).alloc (Nat.le_refl _) _).alloc (by simp) _).drew)) (fun hH => ?_)
      clear hK K
      have hHeld := hH (by decide)
      clear hH
      try simp only [Act.put, List.setIfInBounds_toArray, List.set_cons_zero, List.set_cons_succ, List.getElem_toArray, List.getElem_cons_zero, List.getElem_cons_succ]
      refine wpTop.one 13 rfl (by kernel_rfl) (fun K hK => ?_)
      go_simp
      refine hK.out _ _ (fun _ => HS _ ((((Below.refl _ _).alloc (Nat.le_refl _) _).alloc (by simp) _).drew)) (fun hH => ?_)
      clear hK K
      have hHeld := hH (by decide)
      clear hH
      try simp only [Act.put, List.setIfInBounds_toArray, List.set_cons_zero, List.set_cons_succ, List.getElem_toArray, List.getElem_cons_zero, List.getElem_cons_succ]
      refine wpTop.one 14 rfl (by kernel_rfl) (fun K hK => ?_)
      go_simp
      refine hK.out _ _ (fun _ => HS _ ((((Below.refl _ _).alloc (Nat.le_refl _) _).alloc (by simp) _).drew)) (fun hH => ?_)
      clear hK K
      have hHeld := hH (by decide)
      clear hH
      try simp only [Act.put, List.setIfInBounds_toArray, List.set_cons_zero, List.set_cons_succ, List.getElem_toArray, List.getElem_cons_zero, List.getElem_cons_succ]
      refine wpTop.all (by kernel_rfl) ?_ _
      go_wp2_with fail
      go_meet
      exact ⟨_, _, rfl, rfl, (JM.start _ _ _ _ K1 HZ.out).swap⟩
  case rest =>
    obtain ⟨g8, g9, rfl, rfl, J1⟩ := hcut
    clear HS a0 a1 hz1' HZ K1
    
    have hl8 := J1.l8
    have hl9 := J1.l9
    have hh8 := J1.h8
    have hh9 := J1.h9
    have ha2 := J1.pb.a2
    have hsz := J1.size
    have hnn : w.heap.size < wc.heap.size := by omega
    clear hsz
    go_wp2_with fail
    clear ha2 hnn
    go_loopw [38] (fun iv wr => ∃ j : Nat, j ≤ L.length ∧ iv = .int .i64 j ∧ ∃ A1 c1 A2 c2, JM w W H A L.length c g8 g9 (W) (at_) A1 c1 ((L.take j).filter fun s => decide (s.y < at_)) (W) (H - at_) A2 c2 (((L.take j).filter fun s => decide (at_ ≤ s.y)).map (J.mvS 0 (-at_))) wr) (fun i _ => L.length - (intOf i).toNat)
    case atStart => exact ⟨0, Nat.zero_le _, rfl, none, 0, none, 0, by simpa using J1⟩
    case round =>
      obtain ⟨j, hj, rfl, A1, c1, A2, c2, K⟩ := hrel
      clear J1
      by_cases hlt : j < L.length
      · obtain ⟨s, hs⟩ : ∃ s, L[j]? = some s := ⟨_, List.getElem?_eq_getElem hlt⟩
        have hLr := (HL.out.below K.pb.below).mono K.pb.below.size
        obtain ⟨b, off, rfl, hb, x0, x1, x2⟩ := hLr j s hs
        have jz : (0 : Int) ≤ (j : Int) := by omega
        have jl : (j : Int) < (L.length : Int) := by omega
        have hss := hsb s (List.mem_of_getElem? hs)
        have hF1 := filt_succ (p := fun s => decide (s.y < at_)) L j s hs
        have hF2 := fm_succ (p := fun s => decide (at_ ≤ s.y)) (m := (J.mvS 0 (-at_))) L j s hs
        have hk1 : ((L.take j).filter fun s => decide (s.y < at_)).length ≤ 60 := Nat.le_trans (List.length_filter_le _ _) (by rw [List.length_take]; have := HN.out; omega)
        have hk2 : (((L.take j).filter fun s => decide (at_ ≤ s.y)).map ((J.mvS 0 (-at_)))).length ≤ 60 := by rw [List.length_map]; exact Nat.le_trans (List.length_filter_le _ _) (by rw [List.length_take]; have := HN.out; omega)
        obtain ⟨R1, hR1⟩ : ∃ R, ((L.take j).filter fun s => decide (s.y < at_)) = R := ⟨_, rfl⟩
        obtain ⟨R2, hR2⟩ : ∃ R, (((L.take j).filter fun s => decide (at_ ≤ s.y)).map ((J.mvS 0 (-at_)))) = R := ⟨_, rfl⟩
        rw [hR1] at K hk1 hF1
        rw [hR2] at K hk2 hF2
        have HF1 := Lib.hid hF1
        have HF2 := Lib.hid hF2
        clear hs hF1 hF2 hR1 hR2 hLr hsb
        have HK := Lib.hid K
        clear K
        have ws : IntKind.i64.wrap (s.y - at_) = s.y - at_ := IntWalk.i64_in _ (by omega)
        by_cases hp : at_ ≤ s.y
        · have d1 : decide (s.y < at_) = false := by simp; omega
          have d2 : decide (at_ ≤ s.y) = true := by simpa using hp
          have e1 := HF1.out.trans (by rw [if_neg (by simp [d1]), List.append_nil])
          have e2 := HF2.out.trans (by rw [if_pos (by simpa using hp), show (J.mvS 0 (-at_)) s = (⟨s.x, s.y - at_, s.d⟩ : Sq) by simp [J.mvS]; try omega])
          have E1 := Lib.hid e1
          have E2 := Lib.hid e2
          clear e1 e2 d1 d2 HF1 HF2
          have hbl : R2.length + 1 ≤ maxLen := by unfold maxLen; omega
          have hby : (R2.length + 1) * 24 ≤ 140737488355328 := by omega
          have b2 := HK.out.b.c2
          have t2 := HK.out.f9 2
          have hown := HK.out.o2
          have hlt := HK.out.b.lt
          have hn30 := HN.out
          have hzr := HK.out.size
          have hg8 := HK.out.h8
          have hg9 := HK.out.h9
          go_wp2_with (at_builtin; refine app_list rfl _ _ _ rfl (w.heap.size + 5) 65 i0 (.agg #[.int .i64 0, .int .i64 0, .int .i64 0]) 3 24 Try.underlying27 hi hz0 hz1 hz2 rfl (by decide) (.slice A2 R2.length c2) R2.length _ rfl ((hown.alloc _).alloc _) (some ⟨wr.heap.size + 1, 0, none⟩) 1 1 [.int .i64 s.x, .int .i64 (s.y - at_), .int .i64 s.d] rfl rfl (.inr ⟨_, rfl, new3' _ _ _ _ _ _⟩) (one3 _ _ _) hbl hby (by simp; omega) ?_; intro v' w6 hown6 hgrow hv6; obtain ⟨A3, c3, rfl⟩ := own_val hown6; have hB6 : Below (w.heap.size + 5) wr w6 := (((Below.refl _ _).alloc hzr _).alloc (by simp; omega) _).grown hgrow (by simp; omega) (fun kk e => (hown.lt kk e).1); have b3 := (hB6.cell (p := ⟨g9, 2, none⟩) (by show g9 < _; omega)).trans b2; have t3 := (hB6.frozen (p := ⟨g9, 2, none⟩) (by show g9 < _; omega)).trans t2; clear b2 t2)
          have K6 := (HK.out.next (((Below.refl _ _).alloc (Nat.le_refl _) (.cells #[.int .i64 s.x, .int .i64 s.y, .int .i64 s.d] 65)).alloc (by simp) (.cells #[.int .i64 s.x, .int .i64 (s.y - at_), .int .i64 s.d] 65))).put (R3 := R2 ++ [(⟨s.x, s.y - at_, s.d⟩ : Sq)]) hgrow (by rw [flat_app, List.length_append]; exact hown6) (by rw [List.length_append]; exact hv6)
          go_roundw
          case rel => exact ⟨j + 1, by omega, by go_num, A1, c1, A3, c3, by rw [E1.out, E2.out]; simpa using K6⟩
          case measure => simp [intOf]; omega
        · have d1 : decide (s.y < at_) = true := by simp; omega
          have d2 : decide (at_ ≤ s.y) = false := by simpa using hp
          have e1 := HF1.out.trans (by rw [if_pos (by simpa using d1)])
          have e2 := HF2.out.trans (by rw [if_neg (by simp [d2]), List.append_nil])
          have E1 := Lib.hid e1
          have E2 := Lib.hid e2
          clear e1 e2 d1 d2 HF1 HF2
          have hbl : R1.length + 1 ≤ maxLen := by unfold maxLen; omega
          have hby : (R1.length + 1) * 24 ≤ 140737488355328 := by omega
          have b2 := HK.out.a.c2
          have t2 := HK.out.f8 2
          have hown := HK.out.o1
          have hlt := HK.out.a.lt
          have hn30 := HN.out
          have hzr := HK.out.size
          have hg8 := HK.out.h8
          have hg9 := HK.out.h9
          go_wp2_with (at_builtin; refine app_list rfl _ _ _ rfl (w.heap.size + 5) 65 i0 (.agg #[.int .i64 0, .int .i64 0, .int .i64 0]) 3 24 Try.underlying27 hi hz0 hz1 hz2 rfl (by decide) (.slice A1 R1.length c1) R1.length _ rfl ((hown.alloc _).alloc _) (some ⟨wr.heap.size + 1, 0, none⟩) 1 1 [.int .i64 s.x, .int .i64 s.y, .int .i64 s.d] rfl rfl (.inr ⟨_, rfl, new3' _ _ _ _ _ _⟩) (one3 _ _ _) hbl hby (by simp; omega) ?_; intro v' w6 hown6 hgrow hv6; obtain ⟨A3, c3, rfl⟩ := own_val hown6; have hB6 : Below (w.heap.size + 5) wr w6 := (((Below.refl _ _).alloc hzr _).alloc (by simp; omega) _).grown hgrow (by simp; omega) (fun kk e => (hown.lt kk e).1); have b3 := (hB6.cell (p := ⟨g8, 2, none⟩) (by show g8 < _; omega)).trans b2; have t3 := (hB6.frozen (p := ⟨g8, 2, none⟩) (by show g8 < _; omega)).trans t2; clear b2 t2)
          have K6 := ((HK.out.next (((Below.refl _ _).alloc (Nat.le_refl _) (.cells #[.int .i64 s.x, .int .i64 s.y, .int .i64 s.d] 65)).alloc (by simp) (.cells #[.int .i64 s.x, .int .i64 s.y, .int .i64 s.d] 65))).swap.put (R3 := R1 ++ [s]) hgrow (by rw [flat_app, List.length_append]; exact hown6) (by rw [List.length_append]; exact hv6)).swap
          go_roundw
          case rel => exact ⟨j + 1, by omega, by go_num, A3, c3, A2, c2, by rw [E1.out, E2.out]; simpa using K6⟩
          case measure => simp [intOf]; omega
      · obtain rfl : j = L.length := by omega
        rw [List.take_of_length_le (Nat.le_refl _)] at K
        obtain ⟨M1, hM1⟩ : ∃ M, (L.filter fun s => decide (s.y < at_)) = M := ⟨_, rfl⟩
        obtain ⟨M2, hM2⟩ : ∃ M, ((L.filter fun s => decide (at_ ≤ s.y)).map ((J.mvS 0 (-at_)))) = M := ⟨_, rfl⟩
        rw [hM1, hM2] at K
        have HM1 := Lib.hid hM1
        have HM2 := Lib.hid hM2
        clear hM1 hM2
        have HK := Lib.hid K
        obtain ⟨la, p0, p1, p2⟩ := id K.a
        obtain ⟨lb, q0, q1, q2⟩ := id K.b
        have ⟨r0, r1, r2⟩ := K.pb.r 1 (.inl rfl)
        have ⟨s0, s1, s2⟩ := K.pb.r 2 (.inr rfl)
        have t0 := K.pb.f 1 0 (.inl rfl)
        have t1 := K.pb.f 1 1 (.inl rfl)
        have t2 := K.pb.f 1 2 (.inl rfl)
        have v0 := K.pb.f 2 0 (.inr rfl)
        have v1 := K.pb.f 2 1 (.inr rfl)
        have v2 := K.pb.f 2 2 (.inr rfl)
        have hzr := K.size
        clear K
        go_wp2_with fail
        have n8 : w.heap.size + 1 ≠ g8 := by omega
        have n9 : w.heap.size + 1 ≠ g9 := by omega
        have n8' : w.heap.size + 1 + 1 ≠ g8 := by omega
        have n9' : w.heap.size + 1 + 1 ≠ g9 := by omega
        have m8 := n8.symm
        have m9 := n9.symm
        have m8' := n8'.symm
        have m9' := n9'.symm
        refine wp_region_top 4 (fun w' => w'.cell? ⟨g8, 0, none⟩ = some (.int .i64 (W)) ∧ w'.cell? ⟨g8, 1, none⟩ = some (.int .i64 (at_)) ∧ w'.cell? ⟨g8, 2, none⟩ = some (.slice A1 M1.length c1) ∧ w'.cell? ⟨g9, 0, none⟩ = some (.int .i64 (W)) ∧ w'.cell? ⟨g9, 1, none⟩ = some (.int .i64 (H - at_)) ∧ w'.cell? ⟨g9, 2, none⟩ = some (.slice A2 M2.length c2)) (by kernel_rfl) ⟨p0, p1, p2, q0, q1, q2⟩ (fun hHeld => ?_)
        refine wpTop.take 0 (v := ?_) rfl (by kernel_rfl) (by kernel_rfl) (by kernel_rfl) (by kernel_rfl) (fun _ _ _ h => h) (Or.inl ⟨by rfl, ?_⟩) (by assumption) ?_
        rotate_left
        · intro w hSw; (try dsimp only at hSw); go_simp; try (with_reducible rfl)
        try simp only [Act.put, List.setIfInBounds_toArray, List.set_cons_zero, List.set_cons_succ, List.getElem_toArray, List.getElem_cons_zero, List.getElem_cons_succ]
        refine wpTop.take 1 (v := ?_) rfl (by kernel_rfl) (by kernel_rfl) (by kernel_rfl) (by kernel_rfl) (fun _ _ _ h => h) (Or.inl ⟨by rfl, ?_⟩) (by assumption) ?_
        rotate_left
        · intro w hSw; (try dsimp only at hSw); go_simp; try (with_reducible rfl)
        try simp only [Act.put, List.setIfInBounds_toArray, List.set_cons_zero, List.set_cons_succ, List.getElem_toArray, List.getElem_cons_zero, List.getElem_cons_succ]
        refine wpTop.one 2 rfl (by kernel_rfl) (fun K hK => ?_)
        go_simp
        refine hK.out _ _ (fun _ => (by refine ⟨?_, ?_, ?_, ?_, ?_, ?_⟩ <;> simp [go_sem, p0, p1, p2, q0, q1, q2, n8, n9, m8, m9, n8', n9', m8', m9'])) (fun hH => ?_)
        clear hK K
        have hHeld := hH (by decide)
        clear hH
        try simp only [Act.put, List.setIfInBounds_toArray, List.set_cons_zero, List.set_cons_succ, List.getElem_toArray, List.getElem_cons_zero, List.getElem_cons_succ]
        refine wpTop.one 3 rfl (by kernel_rfl) (fun K hK => ?_)
        go_simp
        refine hK.out _ _ (fun _ => (by refine ⟨?_, ?_, ?_, ?_, ?_, ?_⟩ <;> simp [go_sem, p0, p1, p2, q0, q1, q2, n8, n9, m8, m9, n8', n9', m8', m9'])) (fun hH => ?_)
        clear hK K
        have hHeld := hH (by decide)
        clear hH
        try simp only [Act.put, List.setIfInBounds_toArray, List.set_cons_zero, List.set_cons_succ, List.getElem_toArray, List.getElem_cons_zero, List.getElem_cons_succ]
        refine wpTop.all (by kernel_rfl) ?_ _
        go_wp2_with fail
        have O1 := HK.out.o1
        have O2 := HK.out.o2
        have P1 := own_base (base' := w.heap.size) (own3 (g := w.heap.size + 1 + 1) (x := .int .i64 (W)) (y := .int .i64 (H - at_)) (z := .slice A2 M2.length c2) (own3 (g := w.heap.size + 1) (x := .int .i64 (W)) (y := .int .i64 (at_)) (z := .slice A1 M1.length c1) O1 (by omega)) (by omega)).drew (by omega)
        have P2 := own_base (base' := w.heap.size) (own3 (g := w.heap.size + 1 + 1) (x := .int .i64 (W)) (y := .int .i64 (H - at_)) (z := .slice A2 M2.length c2) (own3 (g := w.heap.size + 1) (x := .int .i64 (W)) (y := .int .i64 (at_)) (z := .slice A1 M1.length c1) O2 (by omega)) (by omega)).drew (by omega)
        have s0' : wr.cell? ⟨w.heap.size + 1 + 1, 0, none⟩ = some (.int .i64 0) := s0
        have s1' : wr.cell? ⟨w.heap.size + 1 + 1, 1, none⟩ = some (.int .i64 0) := s1
        have s2' : wr.cell? ⟨w.heap.size + 1 + 1, 2, none⟩ = some (.slice none 0 0) := s2
        have hB := bel3 (g := w.heap.size + 1 + 1) (x := .int .i64 (W)) (y := .int .i64 (H - at_)) (z := .slice A2 M2.length c2) (bel3 (g := w.heap.size + 1) (x := .int .i64 (W)) (y := .int .i64 (at_)) (z := .slice A1 M1.length c1) HK.out.pb.below (by omega)) (by omega)
        refine bodyPost_ret (v := .tuple #[.agg #[.int .i64 (W), .int .i64 (at_), .slice A1 M1.length c1], .agg #[.int .i64 (W), .int .i64 (H - at_), .slice A2 M2.length c2]]) (by simp [results, Try.results75, go_sem, r0, r1, r2, s0', s1', s2']) rfl ?_
        show RetJ w (W) (at_) (L.filter fun s => decide (s.y < at_)) (W) (H - at_) ((L.filter fun s => decide (at_ ≤ s.y)).map ((J.mvS 0 (-at_)))) _ _
        rw [HM1.out, HM2.out]
        exact ⟨A1, c1, A2, c2, rfl, P1, P2, HK.out.dis, hB.drew⟩
end Go.Proofs.Ytilneimiedfjnaa
namespace Go.Proofs.Ytilneimiedfjnaa
open Go.RowKit

theorem wpTop.three {P : Program} {ops : Array Oper} {Q : Exit → Act → World → Prop} {md : Region.Mode} {S : World → Prop} (i j l : Nat) {n f : Nat} {done : Array Bool} {a : Act} {w : World} (hr : Region.ready md ops done = [i, j, l])
    (hi : wpOp P ops Q i (fun a' w' => (i < n → S w') ∧ wpTop P md ops Q S n f (done.setIfInBounds i true) a' w') a w)
    (hj : wpOp P ops Q j (fun a' w' => (j < n → S w') ∧ wpTop P md ops Q S n f (done.setIfInBounds j true) a' w') a w)
    (hl : wpOp P ops Q l (fun a' w' => (l < n → S w') ∧ wpTop P md ops Q S n f (done.setIfInBounds l true) a' w') a w) : wpTop P md ops Q S n (f + 1) done a w := by
  refine ⟨fun e => (by rw [hr] at e; cases e), fun k hk => ?_⟩
  rw [hr] at hk
  rcases List.mem_cons.1 hk with rfl | hk
  · exact hi
  rcases List.mem_cons.1 hk with rfl | hk
  · exact hj
  · obtain rfl := List.mem_singleton.1 hk
    exact hl
/-- Two boxes that hold two cuts of the call's own. -/
structure R2 (Wb : World) (g h : Nat) (X1 Y1 : Int) (A1 : Option Addr) (c1 : Nat) (M1 : List Sq) (X2 Y2 : Int) (A2 : Option Addr) (c2 : Nat) (M2 : List Sq) (wx : World) : Prop where
  bel : Below Wb.heap.size Wb wx
  g0 : Wb.heap.size ≤ g
  h0 : Wb.heap.size ≤ h
  a : Bx g wx X1 Y1 A1 M1.length c1
  b : Bx h wx X2 Y2 A2 M2.length c2
  o1 : wx.ownsRow Wb.heap.size 65 3 (.slice A1 M1.length c1) M1.length (flat M1)
  o2 : wx.ownsRow Wb.heap.size 65 3 (.slice A2 M2.length c2) M2.length (flat M2)
  dis : ∀ k, (Value.slice A1 M1.length c1).ownBlock = some k → (Value.slice A2 M2.length c2).ownBlock ≠ some k
theorem R2.swap {Wb wx : World} {g h : Nat} {X1 Y1 : Int} {A1 : Option Addr} {c1 : Nat} {M1 : List Sq} {X2 Y2 : Int} {A2 : Option Addr} {c2 : Nat} {M2 : List Sq} (k : R2 Wb g h X1 Y1 A1 c1 M1 X2 Y2 A2 c2 M2 wx) : R2 Wb h g X2 Y2 A2 c2 M2 X1 Y1 A1 c1 M1 wx :=
  ⟨k.bel, k.h0, k.g0, k.b, k.a, k.o2, k.o1, fun j h1 h2 => k.dis j h2 h1⟩
theorem R2.late {w3 w4 : World} {X1 Y1 : Int} {A1 : Option Addr} {c1 : Nat} {M1 : List Sq} {X2 Y2 : Int} {A2 : Option Addr} {c2 : Nat} {M2 : List Sq} (hbc : Below w3.heap.size w3 w4) (o1 : w4.ownsRow w3.heap.size 65 3 (.slice A1 M1.length c1) M1.length (flat M1)) (o2 : w4.ownsRow w3.heap.size 65 3 (.slice A2 M2.length c2) M2.length (flat M2))
    (hd : ∀ k, (Value.slice A1 M1.length c1).ownBlock = some k → (Value.slice A2 M2.length c2).ownBlock ≠ some k) :
    R2 w3 w4.heap.size (w4.heap.size + 1) X1 Y1 A1 c1 M1 X2 Y2 A2 c2 M2 ((w4.alloc (.cells #[.int .i64 X1, .int .i64 Y1, .slice A1 M1.length c1] 29)).alloc (.cells #[.int .i64 X2, .int .i64 Y2, .slice A2 M2.length c2] 29)) := by
  have hz := hbc.size
  have x1 := Bx.start w4 X1 Y1 A1 M1.length c1 29
  have b1 : Below w4.heap.size w4 (w4.alloc (.cells #[.int .i64 X1, .int .i64 Y1, .slice A1 M1.length c1] 29)) := (Below.refl _ _).alloc (Nat.le_refl _) _
  have z1 : (w4.alloc (.cells #[.int .i64 X1, .int .i64 Y1, .slice A1 M1.length c1] 29)).heap.size = w4.heap.size + 1 := by simp
  generalize w4.alloc (.cells #[.int .i64 X1, .int .i64 Y1, .slice A1 M1.length c1] 29) = u at *
  have x2 := Bx.start u X2 Y2 A2 M2.length c2 29
  have b2 : Below u.heap.size u (u.alloc (.cells #[.int .i64 X2, .int .i64 Y2, .slice A2 M2.length c2] 29)) := (Below.refl _ _).alloc (Nat.le_refl _) _
  have bb := b1.trans (b2.mono (by omega))
  rw [z1] at x2
  exact ⟨hbc.trans (bb.mono hz), hz, by omega, x1.next b2, x2, own_keep o1 bb, own_keep o2 bb, hd⟩
theorem R2.mid {w3 w4 : World} {g : Nat} {X1 Y1 : Int} {A1 : Option Addr} {c1 : Nat} {M1 : List Sq} {X2 Y2 : Int} {A2 : Option Addr} {c2 : Nat} {M2 : List Sq} (hbc : Below w3.heap.size w3 w4) (h0 : w3.heap.size ≤ g) (hlt : g < w4.heap.size) {v0 v1 v2 : Value} (e0 : w4.cell? ⟨g, 0, none⟩ = some v0) (e1 : w4.cell? ⟨g, 1, none⟩ = some v1) (e2 : w4.cell? ⟨g, 2, none⟩ = some v2)
    (o1 : w4.ownsRow (g + 1) 65 3 (.slice A1 M1.length c1) M1.length (flat M1)) (o2 : w4.ownsRow (g + 1) 65 3 (.slice A2 M2.length c2) M2.length (flat M2))
    (hd : ∀ k, (Value.slice A1 M1.length c1).ownBlock = some k → (Value.slice A2 M2.length c2).ownBlock ≠ some k) :
    R2 w3 g w4.heap.size X1 Y1 A1 c1 M1 X2 Y2 A2 c2 M2 ((((w4.setCell ⟨g, 0, none⟩ (.int .i64 X1)).setCell ⟨g, 1, none⟩ (.int .i64 Y1)).setCell ⟨g, 2, none⟩ (.slice A1 M1.length c1)).alloc (.cells #[.int .i64 X2, .int .i64 Y2, .slice A2 M2.length c2] 29)) := by
  have hz := hbc.size
  have b1 := bel3 (x := .int .i64 X1) (y := .int .i64 Y1) (z := .slice A1 M1.length c1) hbc h0
  have p1 := own3 (x := .int .i64 X1) (y := .int .i64 Y1) (z := .slice A1 M1.length c1) o1 (Nat.lt_succ_self g)
  have p2 := own3 (x := .int .i64 X1) (y := .int .i64 Y1) (z := .slice A1 M1.length c1) o2 (Nat.lt_succ_self g)
  have z1 : (((w4.setCell ⟨g, 0, none⟩ (.int .i64 X1)).setCell ⟨g, 1, none⟩ (.int .i64 Y1)).setCell ⟨g, 2, none⟩ (.slice A1 M1.length c1)).heap.size = w4.heap.size := by simp
  have x1 : Bx g (((w4.setCell ⟨g, 0, none⟩ (.int .i64 X1)).setCell ⟨g, 1, none⟩ (.int .i64 Y1)).setCell ⟨g, 2, none⟩ (.slice A1 M1.length c1)) X1 Y1 A1 M1.length c1 := ⟨by rw [z1]; exact hlt, by simp [go_sem, e0, e1, e2], by simp [go_sem, e0, e1, e2], by simp [go_sem, e0, e1, e2]⟩
  generalize (((w4.setCell ⟨g, 0, none⟩ (.int .i64 X1)).setCell ⟨g, 1, none⟩ (.int .i64 Y1)).setCell ⟨g, 2, none⟩ (.slice A1 M1.length c1)) = u at *
  have x2 := Bx.start u X2 Y2 A2 M2.length c2 29
  have b2 : Below u.heap.size u (u.alloc (.cells #[.int .i64 X2, .int .i64 Y2, .slice A2 M2.length c2] 29)) := (Below.refl _ _).alloc (Nat.le_refl _) _
  rw [z1] at x2
  exact ⟨b1.trans (b2.mono (by omega)), h0, hz, x1.next b2, x2, own_base (own_keep p1 b2) (by omega), own_base (own_keep p2 b2) (by omega), hd⟩
theorem R2.early {w3 w4 : World} {g h : Nat} {X1 Y1 : Int} {A1 : Option Addr} {c1 : Nat} {M1 : List Sq} {X2 Y2 : Int} {A2 : Option Addr} {c2 : Nat} {M2 : List Sq} (hbc : Below w3.heap.size w3 w4) (g0 : w3.heap.size ≤ g) (h0 : w3.heap.size ≤ h) (hn : g ≠ h) (hg : g < w3.heap.size + 2) (hh : h < w3.heap.size + 2) (hlt : w3.heap.size + 2 ≤ w4.heap.size)
    {v0 v1 v2 u0 u1 u2 : Value} (e0 : w4.cell? ⟨g, 0, none⟩ = some v0) (e1 : w4.cell? ⟨g, 1, none⟩ = some v1) (e2 : w4.cell? ⟨g, 2, none⟩ = some v2) (f0 : w4.cell? ⟨h, 0, none⟩ = some u0) (f1 : w4.cell? ⟨h, 1, none⟩ = some u1) (f2 : w4.cell? ⟨h, 2, none⟩ = some u2)
    (o1 : w4.ownsRow (w3.heap.size + 2) 65 3 (.slice A1 M1.length c1) M1.length (flat M1)) (o2 : w4.ownsRow (w3.heap.size + 2) 65 3 (.slice A2 M2.length c2) M2.length (flat M2))
    (hd : ∀ k, (Value.slice A1 M1.length c1).ownBlock = some k → (Value.slice A2 M2.length c2).ownBlock ≠ some k) :
    R2 w3 g h X1 Y1 A1 c1 M1 X2 Y2 A2 c2 M2 ((((((w4.setCell ⟨g, 0, none⟩ (.int .i64 X1)).setCell ⟨g, 1, none⟩ (.int .i64 Y1)).setCell ⟨g, 2, none⟩ (.slice A1 M1.length c1)).setCell ⟨h, 0, none⟩ (.int .i64 X2)).setCell ⟨h, 1, none⟩ (.int .i64 Y2)).setCell ⟨h, 2, none⟩ (.slice A2 M2.length c2)) := by
  have hn' := hn.symm
  have hz := hbc.size
  exact ⟨bel3 (bel3 hbc g0) h0, g0, h0, ⟨by simp; omega, by simp [go_sem, e0, e1, e2, f0, f1, f2, hn, hn'], by simp [go_sem, e0, e1, e2, f0, f1, f2, hn, hn'], by simp [go_sem, e0, e1, e2, f0, f1, f2, hn, hn']⟩, ⟨by simp; omega, by simp [go_sem, e0, e1, e2, f0, f1, f2, hn, hn'], by simp [go_sem, e0, e1, e2, f0, f1, f2, hn, hn'], by simp [go_sem, e0, e1, e2, f0, f1, f2, hn, hn']⟩,
    own_base (own3 (own3 o1 hg) hh) (by omega), own_base (own3 (own3 o2 hg) hh) (by omega), hd⟩
set_option maxRecDepth 100000 in
set_option maxHeartbeats 16000000 in
theorem specPartDown_any (W H : Int) (A : Option Addr) (n c : Nat) (L : List Sq) (w : World) (hl : L.length = n) (hc : n ≤ c) (hL : SqsAt w w.heap.size A L) :
    Calls Try.prog 34 #[.agg #[.int .i64 W, .int .i64 H, .slice A n c]] w (RetPt w (dnPt W H L)) := by
  subst hl
  have K1 := PB.start w W H A L.length c
  obtain ⟨W1, hW1⟩ : ∃ x, x = (((w.alloc (.cells #[.int .i64 W, .int .i64 H, .slice A L.length c] 29)).alloc (.cells #[.int .i64 0, .int .i64 0, .slice none 0 0] 29)).alloc (.cells #[.int .i64 0, .int .i64 0, .slice none 0 0] 29)) := ⟨_, rfl⟩
  rw [← hW1] at K1
  have HL := Lib.hid hL
  by_cases hG : Good W H L
  case neg =>
    rw [dnPt_no hG]
    go_enter Try.func34, Try.ntmps34
    go_wp2_with fail
    rw [← hW1]
    refine (callB_no (cuGood_any W H A _ c L _ rfl hc ((hL.below K1.below).mono K1.below.size)) hG).mono ?_
    rintro e w2 ⟨rfl, hb2⟩
    have K4 := K1.next hb2
    clear hb2 K1 hW1
    have ⟨r0, r1, r2⟩ := K4.r 1 (.inl rfl)
    have ⟨s0, s1, s2⟩ := K4.r 2 (.inr rfl)
    have t0 := K4.f 1 0 (.inl rfl)
    have t1 := K4.f 1 1 (.inl rfl)
    have t2 := K4.f 1 2 (.inl rfl)
    have v0 := K4.f 2 0 (.inr rfl)
    have v1 := K4.f 2 1 (.inr rfl)
    have v2 := K4.f 2 2 (.inr rfl)
    go_wp2_with fail
    have hB := (((((K4.below.setCell (p := ⟨w.heap.size + 1, 0, none⟩) (by simp) (.int .i64 0)).setCell (p := ⟨w.heap.size + 1, 1, none⟩) (by simp) (.int .i64 0)).setCell (p := ⟨w.heap.size + 1, 2, none⟩) (by simp) (.slice none 0 0)).setCell (p := ⟨w.heap.size + 2, 0, none⟩) (by simp) (.int .i64 0)).setCell (p := ⟨w.heap.size + 2, 1, none⟩) (by simp) (.int .i64 0)).setCell (p := ⟨w.heap.size + 2, 2, none⟩) (by simp) (.slice none 0 0)
    refine bodyPost_ret (v := .tuple #[.agg #[.int .i64 0, .int .i64 0, .slice none 0 0], .agg #[.int .i64 0, .int .i64 0, .slice none 0 0], .bool false]) (by simp [results, Try.results34, go_sem, r0, r1, r2, s0, s1, s2]) rfl ?_
    exact RetPt.none_ hB
  case pos =>
    rw [dnPt_yes hG]
    have hmem := fun a (h : a ∈ J.lnD L W.toNat) => J.lnD_mem h
    go_enter Try.func34, Try.ntmps34
    go_wp2_with fail
    rw [← hW1]
    refine (callB_yes (cuGood_any W H A _ c L _ rfl hc ((hL.below K1.below).mono K1.below.size)) hG).mono ?_
    rintro e w2 ⟨rfl, hb2⟩
    have K2 := K1.next hb2
    clear hb2 K1 hW1
    have b0 := K2.a0
    have b1 := K2.a1
    have b2 := K2.a2
    have hzz := K2.size
    go_wp2_with fail
    refine (joLinesDown_any W H A _ c L w2 rfl ((hL.below K2.below).mono K2.below.size) hG).mono ?_
    rintro e w3 ⟨A3, c3, rfl, ho3, hb3⟩
    have K4 := K2.next hb3
    clear b0 b1 b2 hzz K2 hb3
    have ⟨r0, r1, r2⟩ := K4.r 1 (.inl rfl)
    have ⟨s0, s1, s2⟩ := K4.r 2 (.inr rfl)
    have t0 := K4.f 1 0 (.inl rfl)
    have t1 := K4.f 1 1 (.inl rfl)
    have t2 := K4.f 1 2 (.inl rfl)
    have v0 := K4.f 2 0 (.inr rfl)
    have v1 := K4.f 2 1 (.inr rfl)
    have v2 := K4.f 2 2 (.inr rfl)
    have b0 := K4.a0
    have b1 := K4.a1
    have b2 := K4.a2
    have hzz := K4.size
    cases hln : J.lnD L W.toNat with
    | nil =>
      rw [hln] at ho3
      go_wp2_with fail
      have hB := (((((K4.below.setCell (p := ⟨w.heap.size + 1, 0, none⟩) (by simp) (.int .i64 0)).setCell (p := ⟨w.heap.size + 1, 1, none⟩) (by simp) (.int .i64 0)).setCell (p := ⟨w.heap.size + 1, 2, none⟩) (by simp) (.slice none 0 0)).setCell (p := ⟨w.heap.size + 2, 0, none⟩) (by simp) (.int .i64 0)).setCell (p := ⟨w.heap.size + 2, 1, none⟩) (by simp) (.int .i64 0)).setCell (p := ⟨w.heap.size + 2, 2, none⟩) (by simp) (.slice none 0 0)
      refine bodyPost_ret (v := .tuple #[.agg #[.int .i64 0, .int .i64 0, .slice none 0 0], .agg #[.int .i64 0, .int .i64 0, .slice none 0 0], .bool false]) (by simp [results, Try.results34, go_sem, r0, r1, r2, s0, s1, s2]) rfl ?_
      rw [hln, show dnF W H L [] = noPt from rfl]
      exact RetPt.none_ hB
    | cons a r =>
      have ha := hmem a (by rw [hln]; exact List.mem_cons_self)
      have ha1 : 0 ≤ a ∧ a ≤ W := by have := ha.1; have := hG.1; have := hG.2.1; omega
      rw [hln] at ho3
      have HLN := Lib.hid hln
      clear hln hmem
      obtain ⟨gl, el, hgl, cl⟩ : ∃ gl, A3 = some ⟨gl, 0, none⟩ ∧ gl < w3.heap.size ∧ w3.cell? ⟨gl, 0, none⟩ = some (.int .i64 a) := by
        have h2 := ho3.2
        rcases h2 with ⟨e1, e2⟩ | ⟨g, cap, cur, e1, _⟩
        · simp at e2
        · cases e1
          exact ⟨g, rfl, (own_lt ho3).2, by rw [ho3.cellAt 0 (by simp)]; rfl⟩
      subst el
      have CJ : ∀ w', Below w3.heap.size w3 w' → Calls Try.prog 75 #[.agg #[.int .i64 W, .int .i64 H, .slice A L.length c], .int .i64 a, .bool true] w' (RetJ w' a H (J.paX a L) (W - a) H (J.pbX a L)) := fun w' hb =>
        joPartDown_any W H a A L.length c L w' rfl ((HL.out.below (K4.next hb).below).mono (K4.next hb).below.size) hG ha1
      have l0 : (0 : Int) < ((r.length + 1 : Nat) : Int) := by omega
      have HC := Lib.hid CJ
      clear ho3 CJ
      go_upto_region 6 with fail
      go_cut [6, 7] (fun p q wx => ∃ g h A1 c1 A2 c2, p = .pointer (some ⟨g, 0, none⟩) ∧ q = .pointer (some ⟨h, 0, none⟩) ∧ R2 w3 g h a H A1 c1 (J.paX a L) (W - a) H A2 c2 (J.pbX a L) wx)
      case first =>
        have HS : ∀ w' : World, Below w3.heap.size w3 w' → w'.cell? ⟨w.heap.size, 0, none⟩ = some (.int .i64 W) ∧ w'.cell? ⟨w.heap.size, 1, none⟩ = some (.int .i64 H) ∧ w'.cell? ⟨w.heap.size, 2, none⟩ = some (.slice A L.length c) ∧ w'.cell? ⟨gl, 0, none⟩ = some (.int .i64 a) := fun w' hb => ⟨(hb.cell (p := ⟨_, _, none⟩) (by show w.heap.size < _; omega)).trans b0, (hb.cell (p := ⟨_, _, none⟩) (by show w.heap.size < _; omega)).trans b1, (hb.cell (p := ⟨_, _, none⟩) (by show w.heap.size < _; omega)).trans b2, (hb.cell (p := ⟨_, _, none⟩) hgl).trans cl⟩
        refine wp_region_top 12 (fun w' => w'.cell? ⟨w.heap.size, 0, none⟩ = some (.int .i64 W) ∧ w'.cell? ⟨w.heap.size, 1, none⟩ = some (.int .i64 H) ∧ w'.cell? ⟨w.heap.size, 2, none⟩ = some (.slice A L.length c) ∧ w'.cell? ⟨gl, 0, none⟩ = some (.int .i64 a)) (by kernel_rfl) (HS _ ((Below.refl _ _).drew)) (fun hHeld => ?_)
        refine wpTop.take 0 (v := ?_) rfl (by kernel_rfl) (by kernel_rfl) (by kernel_rfl) (by kernel_rfl) (fun _ _ _ h => h) (Or.inl ⟨by rfl, ?_⟩) (by assumption) ?_
        rotate_left
        · intro w hSw; (try dsimp only at hSw); go_simp; try (with_reducible rfl)
        try simp only [Act.put, List.setIfInBounds_toArray, List.set_cons_zero, List.set_cons_succ, List.getElem_toArray, List.getElem_cons_zero, List.getElem_cons_succ]
        refine wpTop.take 1 (v := ?_) rfl (by kernel_rfl) (by kernel_rfl) (by kernel_rfl) (by kernel_rfl) (fun _ _ _ h => h) (Or.inl ⟨by rfl, ?_⟩) (by assumption) ?_
        rotate_left
        · intro w hSw; (try dsimp only at hSw); go_simp; try (with_reducible rfl)
        try simp only [Act.put, List.setIfInBounds_toArray, List.set_cons_zero, List.set_cons_succ, List.getElem_toArray, List.getElem_cons_zero, List.getElem_cons_succ]
        refine wpTop.take 2 (v := ?_) rfl (by kernel_rfl) (by kernel_rfl) (by kernel_rfl) (by kernel_rfl) (fun _ _ _ h => h) (Or.inl ⟨by rfl, ?_⟩) (by assumption) ?_
        rotate_left
        · intro w hSw; (try dsimp only at hSw); go_simp; try (with_reducible rfl)
        try simp only [Act.put, List.setIfInBounds_toArray, List.set_cons_zero, List.set_cons_succ, List.getElem_toArray, List.getElem_cons_zero, List.getElem_cons_succ]
        refine wpTop.take 3 (v := ?_) rfl (by kernel_rfl) (by kernel_rfl) (by kernel_rfl) (by kernel_rfl) (fun _ _ _ h => h) (Or.inl ⟨by rfl, ?_⟩) (by assumption) ?_
        rotate_left
        · intro w hSw; (try dsimp only at hSw); go_simp; try (with_reducible rfl)
        try simp only [Act.put, List.setIfInBounds_toArray, List.set_cons_zero, List.set_cons_succ, List.getElem_toArray, List.getElem_cons_zero, List.getElem_cons_succ]
        refine wpTop.three 4 8 9 (by kernel_rfl) ?_ ?_ ?_
        · refine wpTop.go 4 rfl (fun K hK => ?_)
          go_simp
          (with_reducible refine (HC.out _ ((Below.refl _ _).drew)).mono ?_)
          rintro e w4 ⟨A5, c5, A6, c6, rfl, o5, o6, hd, hb4⟩
          have hbc : Below w3.heap.size w3 w4 := Below.trans ((Below.refl _ _).drew) (hb4.mono (by first | (simp; done) | (simp; omega)))
          have hsz4 := hb4.size
          simp at hsz4
          have hszb := hbc.size
          have O5 : w4.ownsRow (w3.heap.size) 65 3 (.slice A5 (J.paX a L).length c5) (J.paX a L).length (flat (J.paX a L)) := by simpa using o5
          have O6 : w4.ownsRow (w3.heap.size) 65 3 (.slice A6 (J.pbX a L).length c6) (J.pbX a L).length (flat (J.pbX a L)) := by simpa using o6
          clear o5 o6
          refine hK.out _ _ (fun _ => HS _ hbc) (fun hH => ?_)
          clear hK K
          have hHeld := hH (by decide)
          clear hH
          try simp only [Act.put, List.setIfInBounds_toArray, List.set_cons_zero, List.set_cons_succ, List.getElem_toArray, List.getElem_cons_zero, List.getElem_cons_succ]
          refine wpTop.take 5 (v := ?_) rfl (by kernel_rfl) (by kernel_rfl) (by kernel_rfl) (by kernel_rfl) (fun _ _ _ h => h) (Or.inl ⟨by rfl, ?_⟩) (by assumption) ?_
          rotate_left
          · intro w hSw; (try dsimp only at hSw); go_simp; try (with_reducible rfl)
          try simp only [Act.put, List.setIfInBounds_toArray, List.set_cons_zero, List.set_cons_succ, List.getElem_toArray, List.getElem_cons_zero, List.getElem_cons_succ]
          refine wpTop.take 6 (v := ?_) rfl (by kernel_rfl) (by kernel_rfl) (by kernel_rfl) (by kernel_rfl) (fun _ _ _ h => h) (Or.inl ⟨by rfl, ?_⟩) (by assumption) ?_
          rotate_left
          · intro w hSw; (try dsimp only at hSw); go_simp; try (with_reducible rfl)
          try simp only [Act.put, List.setIfInBounds_toArray, List.set_cons_zero, List.set_cons_succ, List.getElem_toArray, List.getElem_cons_zero, List.getElem_cons_succ]
          refine wpTop.take 7 (v := ?_) rfl (by kernel_rfl) (by kernel_rfl) (by kernel_rfl) (by kernel_rfl) (fun _ _ _ h => h) (Or.inl ⟨by rfl, ?_⟩) (by assumption) ?_
          rotate_left
          · intro w hSw; (try dsimp only at hSw); go_simp; try (with_reducible rfl)
          try simp only [Act.put, List.setIfInBounds_toArray, List.set_cons_zero, List.set_cons_succ, List.getElem_toArray, List.getElem_cons_zero, List.getElem_cons_succ]
          refine wpTop.two 8 9 (by kernel_rfl) ?_ ?_
          · refine wpTop.go 8 rfl (fun K hK => ?_)
            go_simp
            refine hK.out _ _ (fun _ => HS _ (by repeat (first | (with_reducible exact hbc) | (with_reducible exact Below.refl _ _) | (with_reducible refine Below.drew ?_) | (with_reducible refine Below.alloc ?_ (by first | omega | (simp; omega) | (simp; done)) _) | (with_reducible refine Below.setCell ?_ (by first | omega | (simp; omega) | (simp; done)) _)))) (fun hH => ?_)
            clear hK K
            have hHeld := hH (by decide)
            clear hH
            try simp only [Act.put, List.setIfInBounds_toArray, List.set_cons_zero, List.set_cons_succ, List.getElem_toArray, List.getElem_cons_zero, List.getElem_cons_succ]
            refine wpTop.one 9 rfl (by kernel_rfl) (fun K hK => ?_)
            go_simp
            refine hK.out _ _ (fun _ => HS _ (by repeat (first | (with_reducible exact hbc) | (with_reducible exact Below.refl _ _) | (with_reducible refine Below.drew ?_) | (with_reducible refine Below.alloc ?_ (by first | omega | (simp; omega) | (simp; done)) _) | (with_reducible refine Below.setCell ?_ (by first | omega | (simp; omega) | (simp; done)) _)))) (fun hH => ?_)
            clear hK K
            have hHeld := hH (by decide)
            clear hH
            try simp only [Act.put, List.setIfInBounds_toArray, List.set_cons_zero, List.set_cons_succ, List.getElem_toArray, List.getElem_cons_zero, List.getElem_cons_succ]
            refine wpTop.one 10 rfl (by kernel_rfl) (fun K hK => ?_)
            go_simp
            refine hK.out _ _ (fun _ => HS _ (by repeat (first | (with_reducible exact hbc) | (with_reducible exact Below.refl _ _) | (with_reducible refine Below.drew ?_) | (with_reducible refine Below.alloc ?_ (by first | omega | (simp; omega) | (simp; done)) _) | (with_reducible refine Below.setCell ?_ (by first | omega | (simp; omega) | (simp; done)) _)))) (fun hH => ?_)
            clear hK K
            have hHeld := hH (by decide)
            clear hH
            try simp only [Act.put, List.setIfInBounds_toArray, List.set_cons_zero, List.set_cons_succ, List.getElem_toArray, List.getElem_cons_zero, List.getElem_cons_succ]
            refine wpTop.one 11 rfl (by kernel_rfl) (fun K hK => ?_)
            go_simp
            refine hK.out _ _ (fun _ => HS _ (by repeat (first | (with_reducible exact hbc) | (with_reducible exact Below.refl _ _) | (with_reducible refine Below.drew ?_) | (with_reducible refine Below.alloc ?_ (by first | omega | (simp; omega) | (simp; done)) _) | (with_reducible refine Below.setCell ?_ (by first | omega | (simp; omega) | (simp; done)) _)))) (fun hH => ?_)
            clear hK K
            have hHeld := hH (by decide)
            clear hH
            try simp only [Act.put, List.setIfInBounds_toArray, List.set_cons_zero, List.set_cons_succ, List.getElem_toArray, List.getElem_cons_zero, List.getElem_cons_succ]
            refine wpTop.all (by kernel_rfl) ?_ _
            go_wp2_with fail
            go_meet
            exact ⟨_, _, A5, c5, A6, c6, rfl, rfl, R2.late hbc O5 O6 hd⟩
          · refine wpTop.go 9 rfl (fun K hK => ?_)
            go_simp
            refine hK.out _ _ (fun _ => HS _ (by repeat (first | (with_reducible exact hbc) | (with_reducible exact Below.refl _ _) | (with_reducible refine Below.drew ?_) | (with_reducible refine Below.alloc ?_ (by first | omega | (simp; omega) | (simp; done)) _) | (with_reducible refine Below.setCell ?_ (by first | omega | (simp; omega) | (simp; done)) _)))) (fun hH => ?_)
            clear hK K
            have hHeld := hH (by decide)
            clear hH
            try simp only [Act.put, List.setIfInBounds_toArray, List.set_cons_zero, List.set_cons_succ, List.getElem_toArray, List.getElem_cons_zero, List.getElem_cons_succ]
            refine wpTop.one 8 rfl (by kernel_rfl) (fun K hK => ?_)
            go_simp
            refine hK.out _ _ (fun _ => HS _ (by repeat (first | (with_reducible exact hbc) | (with_reducible exact Below.refl _ _) | (with_reducible refine Below.drew ?_) | (with_reducible refine Below.alloc ?_ (by first | omega | (simp; omega) | (simp; done)) _) | (with_reducible refine Below.setCell ?_ (by first | omega | (simp; omega) | (simp; done)) _)))) (fun hH => ?_)
            clear hK K
            have hHeld := hH (by decide)
            clear hH
            try simp only [Act.put, List.setIfInBounds_toArray, List.set_cons_zero, List.set_cons_succ, List.getElem_toArray, List.getElem_cons_zero, List.getElem_cons_succ]
            refine wpTop.one 10 rfl (by kernel_rfl) (fun K hK => ?_)
            go_simp
            refine hK.out _ _ (fun _ => HS _ (by repeat (first | (with_reducible exact hbc) | (with_reducible exact Below.refl _ _) | (with_reducible refine Below.drew ?_) | (with_reducible refine Below.alloc ?_ (by first | omega | (simp; omega) | (simp; done)) _) | (with_reducible refine Below.setCell ?_ (by first | omega | (simp; omega) | (simp; done)) _)))) (fun hH => ?_)
            clear hK K
            have hHeld := hH (by decide)
            clear hH
            try simp only [Act.put, List.setIfInBounds_toArray, List.set_cons_zero, List.set_cons_succ, List.getElem_toArray, List.getElem_cons_zero, List.getElem_cons_succ]
            refine wpTop.one 11 rfl (by kernel_rfl) (fun K hK => ?_)
            go_simp
            refine hK.out _ _ (fun _ => HS _ (by repeat (first | (with_reducible exact hbc) | (with_reducible exact Below.refl _ _) | (with_reducible refine Below.drew ?_) | (with_reducible refine Below.alloc ?_ (by first | omega | (simp; omega) | (simp; done)) _) | (with_reducible refine Below.setCell ?_ (by first | omega | (simp; omega) | (simp; done)) _)))) (fun hH => ?_)
            clear hK K
            have hHeld := hH (by decide)
            clear hH
            try simp only [Act.put, List.setIfInBounds_toArray, List.set_cons_zero, List.set_cons_succ, List.getElem_toArray, List.getElem_cons_zero, List.getElem_cons_succ]
            refine wpTop.all (by kernel_rfl) ?_ _
            go_wp2_with fail
            go_meet
            exact ⟨_, _, A5, c5, A6, c6, rfl, rfl, (R2.late hbc O6 O5 (fun k h1 h2 => hd k h2 h1)).swap⟩
        · refine wpTop.go 8 rfl (fun K hK => ?_)
          go_simp
          refine hK.out _ _ (fun _ => HS _ (by repeat (first | (with_reducible exact hbc) | (with_reducible exact Below.refl _ _) | (with_reducible refine Below.drew ?_) | (with_reducible refine Below.alloc ?_ (by first | omega | (simp; omega) | (simp; done)) _) | (with_reducible refine Below.setCell ?_ (by first | omega | (simp; omega) | (simp; done)) _)))) (fun hH => ?_)
          clear hK K
          have hHeld := hH (by decide)
          clear hH
          try simp only [Act.put, List.setIfInBounds_toArray, List.set_cons_zero, List.set_cons_succ, List.getElem_toArray, List.getElem_cons_zero, List.getElem_cons_succ]
          refine wpTop.two 4 9 (by kernel_rfl) ?_ ?_
          · refine wpTop.go 4 rfl (fun K hK => ?_)
            go_simp
            (with_reducible refine (HC.out _ (((Below.refl _ _).alloc (Nat.le_refl _) _).drew)).mono ?_)
            rintro e w4 ⟨A5, c5, A6, c6, rfl, o5, o6, hd, hb4⟩
            have hbc : Below w3.heap.size w3 w4 := Below.trans (((Below.refl _ _).alloc (Nat.le_refl _) _).drew) (hb4.mono (by first | (simp; done) | (simp; omega)))
            have hsz4 := hb4.size
            simp at hsz4
            have hszb := hbc.size
            have e00 : w4.cell? ⟨w3.heap.size, 0, none⟩ = some (.int .i64 0) := (hb4.cell (p := ⟨_, _, none⟩) (by first | (simp; done) | (simp; omega))).trans (by simp)
            have f00 : w4.frozen? ⟨w3.heap.size, 0, none⟩ = false := (hb4.frozen (p := ⟨_, _, none⟩) (by first | (simp; done) | (simp; omega))).trans (by simp [go_sem])
            have e01 : w4.cell? ⟨w3.heap.size, 1, none⟩ = some (.int .i64 0) := (hb4.cell (p := ⟨_, _, none⟩) (by first | (simp; done) | (simp; omega))).trans (by simp)
            have f01 : w4.frozen? ⟨w3.heap.size, 1, none⟩ = false := (hb4.frozen (p := ⟨_, _, none⟩) (by first | (simp; done) | (simp; omega))).trans (by simp [go_sem])
            have e02 : w4.cell? ⟨w3.heap.size, 2, none⟩ = some (.slice none 0 0) := (hb4.cell (p := ⟨_, _, none⟩) (by first | (simp; done) | (simp; omega))).trans (by simp)
            have f02 : w4.frozen? ⟨w3.heap.size, 2, none⟩ = false := (hb4.frozen (p := ⟨_, _, none⟩) (by first | (simp; done) | (simp; omega))).trans (by simp [go_sem])
            have lt0 : w3.heap.size < w4.heap.size := by omega
            have ne0 : w3.heap.size ≠ w4.heap.size := by omega
            have en0 : w4.heap.size ≠ w3.heap.size := by omega
            have O5 : w4.ownsRow (w3.heap.size + 1) 65 3 (.slice A5 (J.paX a L).length c5) (J.paX a L).length (flat (J.paX a L)) := by simpa using o5
            have O6 : w4.ownsRow (w3.heap.size + 1) 65 3 (.slice A6 (J.pbX a L).length c6) (J.pbX a L).length (flat (J.pbX a L)) := by simpa using o6
            clear o5 o6
            refine hK.out _ _ (fun _ => HS _ hbc) (fun hH => ?_)
            clear hK K
            have hHeld := hH (by decide)
            clear hH
            try simp only [Act.put, List.setIfInBounds_toArray, List.set_cons_zero, List.set_cons_succ, List.getElem_toArray, List.getElem_cons_zero, List.getElem_cons_succ]
            refine wpTop.take 5 (v := ?_) rfl (by kernel_rfl) (by kernel_rfl) (by kernel_rfl) (by kernel_rfl) (fun _ _ _ h => h) (Or.inl ⟨by rfl, ?_⟩) (by assumption) ?_
            rotate_left
            · intro w hSw; (try dsimp only at hSw); go_simp; try (with_reducible rfl)
            try simp only [Act.put, List.setIfInBounds_toArray, List.set_cons_zero, List.set_cons_succ, List.getElem_toArray, List.getElem_cons_zero, List.getElem_cons_succ]
            refine wpTop.take 6 (v := ?_) rfl (by kernel_rfl) (by kernel_rfl) (by kernel_rfl) (by kernel_rfl) (fun _ _ _ h => h) (Or.inl ⟨by rfl, ?_⟩) (by assumption) ?_
            rotate_left
            · intro w hSw; (try dsimp only at hSw); go_simp; try (with_reducible rfl)
            try simp only [Act.put, List.setIfInBounds_toArray, List.set_cons_zero, List.set_cons_succ, List.getElem_toArray, List.getElem_cons_zero, List.getElem_cons_succ]
            refine wpTop.take 7 (v := ?_) rfl (by kernel_rfl) (by kernel_rfl) (by kernel_rfl) (by kernel_rfl) (fun _ _ _ h => h) (Or.inl ⟨by rfl, ?_⟩) (by assumption) ?_
            rotate_left
            · intro w hSw; (try dsimp only at hSw); go_simp; try (with_reducible rfl)
            try simp only [Act.put, List.setIfInBounds_toArray, List.set_cons_zero, List.set_cons_succ, List.getElem_toArray, List.getElem_cons_zero, List.getElem_cons_succ]
            refine wpTop.one 9 rfl (by kernel_rfl) (fun K hK => ?_)
            go_simp
            refine hK.out _ _ (fun _ => HS _ (by repeat (first | (with_reducible exact hbc) | (with_reducible exact Below.refl _ _) | (with_reducible refine Below.drew ?_) | (with_reducible refine Below.alloc ?_ (by first | omega | (simp; omega) | (simp; done)) _) | (with_reducible refine Below.setCell ?_ (by first | omega | (simp; omega) | (simp; done)) _)))) (fun hH => ?_)
            clear hK K
            have hHeld := hH (by decide)
            clear hH
            try simp only [Act.put, List.setIfInBounds_toArray, List.set_cons_zero, List.set_cons_succ, List.getElem_toArray, List.getElem_cons_zero, List.getElem_cons_succ]
            refine wpTop.one 10 rfl (by kernel_rfl) (fun K hK => ?_)
            go_simp
            refine hK.out _ _ (fun _ => HS _ (by repeat (first | (with_reducible exact hbc) | (with_reducible exact Below.refl _ _) | (with_reducible refine Below.drew ?_) | (with_reducible refine Below.alloc ?_ (by first | omega | (simp; omega) | (simp; done)) _) | (with_reducible refine Below.setCell ?_ (by first | omega | (simp; omega) | (simp; done)) _)))) (fun hH => ?_)
            clear hK K
            have hHeld := hH (by decide)
            clear hH
            try simp only [Act.put, List.setIfInBounds_toArray, List.set_cons_zero, List.set_cons_succ, List.getElem_toArray, List.getElem_cons_zero, List.getElem_cons_succ]
            refine wpTop.one 11 rfl (by kernel_rfl) (fun K hK => ?_)
            go_simp
            refine hK.out _ _ (fun _ => HS _ (by repeat (first | (with_reducible exact hbc) | (with_reducible exact Below.refl _ _) | (with_reducible refine Below.drew ?_) | (with_reducible refine Below.alloc ?_ (by first | omega | (simp; omega) | (simp; done)) _) | (with_reducible refine Below.setCell ?_ (by first | omega | (simp; omega) | (simp; done)) _)))) (fun hH => ?_)
            clear hK K
            have hHeld := hH (by decide)
            clear hH
            try simp only [Act.put, List.setIfInBounds_toArray, List.set_cons_zero, List.set_cons_succ, List.getElem_toArray, List.getElem_cons_zero, List.getElem_cons_succ]
            refine wpTop.all (by kernel_rfl) ?_ _
            go_wp2_with fail
            go_meet
            exact ⟨_, _, A5, c5, A6, c6, rfl, rfl, R2.mid hbc (Nat.le_refl _) lt0 e00 e01 e02 O5 O6 hd⟩
          · refine wpTop.go 9 rfl (fun K hK => ?_)
            go_simp
            refine hK.out _ _ (fun _ => HS _ (by repeat (first | (with_reducible exact hbc) | (with_reducible exact Below.refl _ _) | (with_reducible refine Below.drew ?_) | (with_reducible refine Below.alloc ?_ (by first | omega | (simp; omega) | (simp; done)) _) | (with_reducible refine Below.setCell ?_ (by first | omega | (simp; omega) | (simp; done)) _)))) (fun hH => ?_)
            clear hK K
            have hHeld := hH (by decide)
            clear hH
            try simp only [Act.put, List.setIfInBounds_toArray, List.set_cons_zero, List.set_cons_succ, List.getElem_toArray, List.getElem_cons_zero, List.getElem_cons_succ]
            refine wpTop.one 4 rfl (by kernel_rfl) (fun K hK => ?_)
            go_simp
            (with_reducible refine (HC.out _ ((((Below.refl _ _).alloc (Nat.le_refl _) _).alloc (by simp) _).drew)).mono ?_)
            rintro e w4 ⟨A5, c5, A6, c6, rfl, o5, o6, hd, hb4⟩
            have hbc : Below w3.heap.size w3 w4 := Below.trans ((((Below.refl _ _).alloc (Nat.le_refl _) _).alloc (by simp) _).drew) (hb4.mono (by first | (simp; done) | (simp; omega)))
            have hsz4 := hb4.size
            simp at hsz4
            have hszb := hbc.size
            have e00 : w4.cell? ⟨w3.heap.size, 0, none⟩ = some (.int .i64 0) := (hb4.cell (p := ⟨_, _, none⟩) (by first | (simp; done) | (simp; omega))).trans (by simp)
            have f00 : w4.frozen? ⟨w3.heap.size, 0, none⟩ = false := (hb4.frozen (p := ⟨_, _, none⟩) (by first | (simp; done) | (simp; omega))).trans (by simp [go_sem])
            have e01 : w4.cell? ⟨w3.heap.size, 1, none⟩ = some (.int .i64 0) := (hb4.cell (p := ⟨_, _, none⟩) (by first | (simp; done) | (simp; omega))).trans (by simp)
            have f01 : w4.frozen? ⟨w3.heap.size, 1, none⟩ = false := (hb4.frozen (p := ⟨_, _, none⟩) (by first | (simp; done) | (simp; omega))).trans (by simp [go_sem])
            have e02 : w4.cell? ⟨w3.heap.size, 2, none⟩ = some (.slice none 0 0) := (hb4.cell (p := ⟨_, _, none⟩) (by first | (simp; done) | (simp; omega))).trans (by simp)
            have f02 : w4.frozen? ⟨w3.heap.size, 2, none⟩ = false := (hb4.frozen (p := ⟨_, _, none⟩) (by first | (simp; done) | (simp; omega))).trans (by simp [go_sem])
            have lt0 : w3.heap.size < w4.heap.size := by omega
            have ne0 : w3.heap.size ≠ w4.heap.size := by omega
            have en0 : w4.heap.size ≠ w3.heap.size := by omega
            have e10 : w4.cell? ⟨w3.heap.size + 1, 0, none⟩ = some (.int .i64 0) := (hb4.cell (p := ⟨_, _, none⟩) (by first | (simp; done) | (simp; omega))).trans (by simp)
            have f10 : w4.frozen? ⟨w3.heap.size + 1, 0, none⟩ = false := (hb4.frozen (p := ⟨_, _, none⟩) (by first | (simp; done) | (simp; omega))).trans (by simp [go_sem])
            have e11 : w4.cell? ⟨w3.heap.size + 1, 1, none⟩ = some (.int .i64 0) := (hb4.cell (p := ⟨_, _, none⟩) (by first | (simp; done) | (simp; omega))).trans (by simp)
            have f11 : w4.frozen? ⟨w3.heap.size + 1, 1, none⟩ = false := (hb4.frozen (p := ⟨_, _, none⟩) (by first | (simp; done) | (simp; omega))).trans (by simp [go_sem])
            have e12 : w4.cell? ⟨w3.heap.size + 1, 2, none⟩ = some (.slice none 0 0) := (hb4.cell (p := ⟨_, _, none⟩) (by first | (simp; done) | (simp; omega))).trans (by simp)
            have f12 : w4.frozen? ⟨w3.heap.size + 1, 2, none⟩ = false := (hb4.frozen (p := ⟨_, _, none⟩) (by first | (simp; done) | (simp; omega))).trans (by simp [go_sem])
            have lt1 : w3.heap.size + 1 < w4.heap.size := by omega
            have ne1 : w3.heap.size + 1 ≠ w4.heap.size := by omega
            have en1 : w4.heap.size ≠ w3.heap.size + 1 := by omega
            have O5 : w4.ownsRow (w3.heap.size + 1 + 1) 65 3 (.slice A5 (J.paX a L).length c5) (J.paX a L).length (flat (J.paX a L)) := by simpa using o5
            have O6 : w4.ownsRow (w3.heap.size + 1 + 1) 65 3 (.slice A6 (J.pbX a L).length c6) (J.pbX a L).length (flat (J.pbX a L)) := by simpa using o6
            clear o5 o6
            refine hK.out _ _ (fun _ => HS _ hbc) (fun hH => ?_)
            clear hK K
            have hHeld := hH (by decide)
            clear hH
            try simp only [Act.put, List.setIfInBounds_toArray, List.set_cons_zero, List.set_cons_succ, List.getElem_toArray, List.getElem_cons_zero, List.getElem_cons_succ]
            refine wpTop.take 5 (v := ?_) rfl (by kernel_rfl) (by kernel_rfl) (by kernel_rfl) (by kernel_rfl) (fun _ _ _ h => h) (Or.inl ⟨by rfl, ?_⟩) (by assumption) ?_
            rotate_left
            · intro w hSw; (try dsimp only at hSw); go_simp; try (with_reducible rfl)
            try simp only [Act.put, List.setIfInBounds_toArray, List.set_cons_zero, List.set_cons_succ, List.getElem_toArray, List.getElem_cons_zero, List.getElem_cons_succ]
            refine wpTop.take 6 (v := ?_) rfl (by kernel_rfl) (by kernel_rfl) (by kernel_rfl) (by kernel_rfl) (fun _ _ _ h => h) (Or.inl ⟨by rfl, ?_⟩) (by assumption) ?_
            rotate_left
            · intro w hSw; (try dsimp only at hSw); go_simp; try (with_reducible rfl)
            try simp only [Act.put, List.setIfInBounds_toArray, List.set_cons_zero, List.set_cons_succ, List.getElem_toArray, List.getElem_cons_zero, List.getElem_cons_succ]
            refine wpTop.take 7 (v := ?_) rfl (by kernel_rfl) (by kernel_rfl) (by kernel_rfl) (by kernel_rfl) (fun _ _ _ h => h) (Or.inl ⟨by rfl, ?_⟩) (by assumption) ?_
            rotate_left
            · intro w hSw; (try dsimp only at hSw); go_simp; try (with_reducible rfl)
            try simp only [Act.put, List.setIfInBounds_toArray, List.set_cons_zero, List.set_cons_succ, List.getElem_toArray, List.getElem_cons_zero, List.getElem_cons_succ]
            refine wpTop.one 10 rfl (by kernel_rfl) (fun K hK => ?_)
            go_simp
            refine hK.out _ _ (fun _ => HS _ (by repeat (first | (with_reducible exact hbc) | (with_reducible exact Below.refl _ _) | (with_reducible refine Below.drew ?_) | (with_reducible refine Below.alloc ?_ (by first | omega | (simp; omega) | (simp; done)) _) | (with_reducible refine Below.setCell ?_ (by first | omega | (simp; omega) | (simp; done)) _)))) (fun hH => ?_)
            clear hK K
            have hHeld := hH (by decide)
            clear hH
            try simp only [Act.put, List.setIfInBounds_toArray, List.set_cons_zero, List.set_cons_succ, List.getElem_toArray, List.getElem_cons_zero, List.getElem_cons_succ]
            refine wpTop.one 11 rfl (by kernel_rfl) (fun K hK => ?_)
            go_simp
            refine hK.out _ _ (fun _ => HS _ (by repeat (first | (with_reducible exact hbc) | (with_reducible exact Below.refl _ _) | (with_reducible refine Below.drew ?_) | (with_reducible refine Below.alloc ?_ (by first | omega | (simp; omega) | (simp; done)) _) | (with_reducible refine Below.setCell ?_ (by first | omega | (simp; omega) | (simp; done)) _)))) (fun hH => ?_)
            clear hK K
            have hHeld := hH (by decide)
            clear hH
            try simp only [Act.put, List.setIfInBounds_toArray, List.set_cons_zero, List.set_cons_succ, List.getElem_toArray, List.getElem_cons_zero, List.getElem_cons_succ]
            refine wpTop.all (by kernel_rfl) ?_ _
            go_wp2_with fail
            go_meet
            exact ⟨_, _, A5, c5, A6, c6, rfl, rfl, R2.early hbc (by omega) (by omega) (by omega) (by omega) (by omega) (by omega) e00 e01 e02 e10 e11 e12 O5 O6 hd⟩
        · refine wpTop.go 9 rfl (fun K hK => ?_)
          go_simp
          refine hK.out _ _ (fun _ => HS _ (by repeat (first | (with_reducible exact hbc) | (with_reducible exact Below.refl _ _) | (with_reducible refine Below.drew ?_) | (with_reducible refine Below.alloc ?_ (by first | omega | (simp; omega) | (simp; done)) _) | (with_reducible refine Below.setCell ?_ (by first | omega | (simp; omega) | (simp; done)) _)))) (fun hH => ?_)
          clear hK K
          have hHeld := hH (by decide)
          clear hH
          try simp only [Act.put, List.setIfInBounds_toArray, List.set_cons_zero, List.set_cons_succ, List.getElem_toArray, List.getElem_cons_zero, List.getElem_cons_succ]
          refine wpTop.two 4 8 (by kernel_rfl) ?_ ?_
          · refine wpTop.go 4 rfl (fun K hK => ?_)
            go_simp
            (with_reducible refine (HC.out _ (((Below.refl _ _).alloc (Nat.le_refl _) _).drew)).mono ?_)
            rintro e w4 ⟨A5, c5, A6, c6, rfl, o5, o6, hd, hb4⟩
            have hbc : Below w3.heap.size w3 w4 := Below.trans (((Below.refl _ _).alloc (Nat.le_refl _) _).drew) (hb4.mono (by first | (simp; done) | (simp; omega)))
            have hsz4 := hb4.size
            simp at hsz4
            have hszb := hbc.size
            have e00 : w4.cell? ⟨w3.heap.size, 0, none⟩ = some (.int .i64 0) := (hb4.cell (p := ⟨_, _, none⟩) (by first | (simp; done) | (simp; omega))).trans (by simp)
            have f00 : w4.frozen? ⟨w3.heap.size, 0, none⟩ = false := (hb4.frozen (p := ⟨_, _, none⟩) (by first | (simp; done) | (simp; omega))).trans (by simp [go_sem])
            have e01 : w4.cell? ⟨w3.heap.size, 1, none⟩ = some (.int .i64 0) := (hb4.cell (p := ⟨_, _, none⟩) (by first | (simp; done) | (simp; omega))).trans (by simp)
            have f01 : w4.frozen? ⟨w3.heap.size, 1, none⟩ = false := (hb4.frozen (p := ⟨_, _, none⟩) (by first | (simp; done) | (simp; omega))).trans (by simp [go_sem])
            have e02 : w4.cell? ⟨w3.heap.size, 2, none⟩ = some (.slice none 0 0) := (hb4.cell (p := ⟨_, _, none⟩) (by first | (simp; done) | (simp; omega))).trans (by simp)
            have f02 : w4.frozen? ⟨w3.heap.size, 2, none⟩ = false := (hb4.frozen (p := ⟨_, _, none⟩) (by first | (simp; done) | (simp; omega))).trans (by simp [go_sem])
            have lt0 : w3.heap.size < w4.heap.size := by omega
            have ne0 : w3.heap.size ≠ w4.heap.size := by omega
            have en0 : w4.heap.size ≠ w3.heap.size := by omega
            have O5 : w4.ownsRow (w3.heap.size + 1) 65 3 (.slice A5 (J.paX a L).length c5) (J.paX a L).length (flat (J.paX a L)) := by simpa using o5
            have O6 : w4.ownsRow (w3.heap.size + 1) 65 3 (.slice A6 (J.pbX a L).length c6) (J.pbX a L).length (flat (J.pbX a L)) := by simpa using o6
            clear o5 o6
            refine hK.out _ _ (fun _ => HS _ hbc) (fun hH => ?_)
            clear hK K
            have hHeld := hH (by decide)
            clear hH
            try simp only [Act.put, List.setIfInBounds_toArray, List.set_cons_zero, List.set_cons_succ, List.getElem_toArray, List.getElem_cons_zero, List.getElem_cons_succ]
            refine wpTop.take 5 (v := ?_) rfl (by kernel_rfl) (by kernel_rfl) (by kernel_rfl) (by kernel_rfl) (fun _ _ _ h => h) (Or.inl ⟨by rfl, ?_⟩) (by assumption) ?_
            rotate_left
            · intro w hSw; (try dsimp only at hSw); go_simp; try (with_reducible rfl)
            try simp only [Act.put, List.setIfInBounds_toArray, List.set_cons_zero, List.set_cons_succ, List.getElem_toArray, List.getElem_cons_zero, List.getElem_cons_succ]
            refine wpTop.take 6 (v := ?_) rfl (by kernel_rfl) (by kernel_rfl) (by kernel_rfl) (by kernel_rfl) (fun _ _ _ h => h) (Or.inl ⟨by rfl, ?_⟩) (by assumption) ?_
            rotate_left
            · intro w hSw; (try dsimp only at hSw); go_simp; try (with_reducible rfl)
            try simp only [Act.put, List.setIfInBounds_toArray, List.set_cons_zero, List.set_cons_succ, List.getElem_toArray, List.getElem_cons_zero, List.getElem_cons_succ]
            refine wpTop.take 7 (v := ?_) rfl (by kernel_rfl) (by kernel_rfl) (by kernel_rfl) (by kernel_rfl) (fun _ _ _ h => h) (Or.inl ⟨by rfl, ?_⟩) (by assumption) ?_
            rotate_left
            · intro w hSw; (try dsimp only at hSw); go_simp; try (with_reducible rfl)
            try simp only [Act.put, List.setIfInBounds_toArray, List.set_cons_zero, List.set_cons_succ, List.getElem_toArray, List.getElem_cons_zero, List.getElem_cons_succ]
            refine wpTop.one 8 rfl (by kernel_rfl) (fun K hK => ?_)
            go_simp
            refine hK.out _ _ (fun _ => HS _ (by repeat (first | (with_reducible exact hbc) | (with_reducible exact Below.refl _ _) | (with_reducible refine Below.drew ?_) | (with_reducible refine Below.alloc ?_ (by first | omega | (simp; omega) | (simp; done)) _) | (with_reducible refine Below.setCell ?_ (by first | omega | (simp; omega) | (simp; done)) _)))) (fun hH => ?_)
            clear hK K
            have hHeld := hH (by decide)
            clear hH
            try simp only [Act.put, List.setIfInBounds_toArray, List.set_cons_zero, List.set_cons_succ, List.getElem_toArray, List.getElem_cons_zero, List.getElem_cons_succ]
            refine wpTop.one 10 rfl (by kernel_rfl) (fun K hK => ?_)
            go_simp
            refine hK.out _ _ (fun _ => HS _ (by repeat (first | (with_reducible exact hbc) | (with_reducible exact Below.refl _ _) | (with_reducible refine Below.drew ?_) | (with_reducible refine Below.alloc ?_ (by first | omega | (simp; omega) | (simp; done)) _) | (with_reducible refine Below.setCell ?_ (by first | omega | (simp; omega) | (simp; done)) _)))) (fun hH => ?_)
            clear hK K
            have hHeld := hH (by decide)
            clear hH
            try simp only [Act.put, List.setIfInBounds_toArray, List.set_cons_zero, List.set_cons_succ, List.getElem_toArray, List.getElem_cons_zero, List.getElem_cons_succ]
            refine wpTop.one 11 rfl (by kernel_rfl) (fun K hK => ?_)
            go_simp
            refine hK.out _ _ (fun _ => HS _ (by repeat (first | (with_reducible exact hbc) | (with_reducible exact Below.refl _ _) | (with_reducible refine Below.drew ?_) | (with_reducible refine Below.alloc ?_ (by first | omega | (simp; omega) | (simp; done)) _) | (with_reducible refine Below.setCell ?_ (by first | omega | (simp; omega) | (simp; done)) _)))) (fun hH => ?_)
            clear hK K
            have hHeld := hH (by decide)
            clear hH
            try simp only [Act.put, List.setIfInBounds_toArray, List.set_cons_zero, List.set_cons_succ, List.getElem_toArray, List.getElem_cons_zero, List.getElem_cons_succ]
            refine wpTop.all (by kernel_rfl) ?_ _
            go_wp2_with fail
            go_meet
            exact ⟨_, _, A5, c5, A6, c6, rfl, rfl, (R2.mid hbc (Nat.le_refl _) lt0 e00 e01 e02 O6 O5 (fun k h1 h2 => hd k h2 h1)).swap⟩
          · refine wpTop.go 8 rfl (fun K hK => ?_)
            go_simp
            refine hK.out _ _ (fun _ => HS _ (by repeat (first | (with_reducible exact hbc) | (with_reducible exact Below.refl _ _) | (with_reducible refine Below.drew ?_) | (with_reducible refine Below.alloc ?_ (by first | omega | (simp; omega) | (simp; done)) _) | (with_reducible refine Below.setCell ?_ (by first | omega | (simp; omega) | (simp; done)) _)))) (fun hH => ?_)
            clear hK K
            have hHeld := hH (by decide)
            clear hH
            try simp only [Act.put, List.setIfInBounds_toArray, List.set_cons_zero, List.set_cons_succ, List.getElem_toArray, List.getElem_cons_zero, List.getElem_cons_succ]
            refine wpTop.one 4 rfl (by kernel_rfl) (fun K hK => ?_)
            go_simp
            (with_reducible refine (HC.out _ ((((Below.refl _ _).alloc (Nat.le_refl _) _).alloc (by simp) _).drew)).mono ?_)
            rintro e w4 ⟨A5, c5, A6, c6, rfl, o5, o6, hd, hb4⟩
            have hbc : Below w3.heap.size w3 w4 := Below.trans ((((Below.refl _ _).alloc (Nat.le_refl _) _).alloc (by simp) _).drew) (hb4.mono (by first | (simp; done) | (simp; omega)))
            have hsz4 := hb4.size
            simp at hsz4
            have hszb := hbc.size
            have e00 : w4.cell? ⟨w3.heap.size, 0, none⟩ = some (.int .i64 0) := (hb4.cell (p := ⟨_, _, none⟩) (by first | (simp; done) | (simp; omega))).trans (by simp)
            have f00 : w4.frozen? ⟨w3.heap.size, 0, none⟩ = false := (hb4.frozen (p := ⟨_, _, none⟩) (by first | (simp; done) | (simp; omega))).trans (by simp [go_sem])
            have e01 : w4.cell? ⟨w3.heap.size, 1, none⟩ = some (.int .i64 0) := (hb4.cell (p := ⟨_, _, none⟩) (by first | (simp; done) | (simp; omega))).trans (by simp)
            have f01 : w4.frozen? ⟨w3.heap.size, 1, none⟩ = false := (hb4.frozen (p := ⟨_, _, none⟩) (by first | (simp; done) | (simp; omega))).trans (by simp [go_sem])
            have e02 : w4.cell? ⟨w3.heap.size, 2, none⟩ = some (.slice none 0 0) := (hb4.cell (p := ⟨_, _, none⟩) (by first | (simp; done) | (simp; omega))).trans (by simp)
            have f02 : w4.frozen? ⟨w3.heap.size, 2, none⟩ = false := (hb4.frozen (p := ⟨_, _, none⟩) (by first | (simp; done) | (simp; omega))).trans (by simp [go_sem])
            have lt0 : w3.heap.size < w4.heap.size := by omega
            have ne0 : w3.heap.size ≠ w4.heap.size := by omega
            have en0 : w4.heap.size ≠ w3.heap.size := by omega
            have e10 : w4.cell? ⟨w3.heap.size + 1, 0, none⟩ = some (.int .i64 0) := (hb4.cell (p := ⟨_, _, none⟩) (by first | (simp; done) | (simp; omega))).trans (by simp)
            have f10 : w4.frozen? ⟨w3.heap.size + 1, 0, none⟩ = false := (hb4.frozen (p := ⟨_, _, none⟩) (by first | (simp; done) | (simp; omega))).trans (by simp [go_sem])
            have e11 : w4.cell? ⟨w3.heap.size + 1, 1, none⟩ = some (.int .i64 0) := (hb4.cell (p := ⟨_, _, none⟩) (by first | (simp; done) | (simp; omega))).trans (by simp)
            have f11 : w4.frozen? ⟨w3.heap.size + 1, 1, none⟩ = false := (hb4.frozen (p := ⟨_, _, none⟩) (by first | (simp; done) | (simp; omega))).trans (by simp [go_sem])
            have e12 : w4.cell? ⟨w3.heap.size + 1, 2, none⟩ = some (.slice none 0 0) := (hb4.cell (p := ⟨_, _, none⟩) (by first | (simp; done) | (simp; omega))).trans (by simp)
            have f12 : w4.frozen? ⟨w3.heap.size + 1, 2, none⟩ = false := (hb4.frozen (p := ⟨_, _, none⟩) (by first | (simp; done) | (simp; omega))).trans (by simp [go_sem])
            have lt1 : w3.heap.size + 1 < w4.heap.size := by omega
            have ne1 : w3.heap.size + 1 ≠ w4.heap.size := by omega
            have en1 : w4.heap.size ≠ w3.heap.size + 1 := by omega
            have O5 : w4.ownsRow (w3.heap.size + 1 + 1) 65 3 (.slice A5 (J.paX a L).length c5) (J.paX a L).length (flat (J.paX a L)) := by simpa using o5
            have O6 : w4.ownsRow (w3.heap.size + 1 + 1) 65 3 (.slice A6 (J.pbX a L).length c6) (J.pbX a L).length (flat (J.pbX a L)) := by simpa using o6
            clear o5 o6
            refine hK.out _ _ (fun _ => HS _ hbc) (fun hH => ?_)
            clear hK K
            have hHeld := hH (by decide)
            clear hH
            try simp only [Act.put, List.setIfInBounds_toArray, List.set_cons_zero, List.set_cons_succ, List.getElem_toArray, List.getElem_cons_zero, List.getElem_cons_succ]
            refine wpTop.take 5 (v := ?_) rfl (by kernel_rfl) (by kernel_rfl) (by kernel_rfl) (by kernel_rfl) (fun _ _ _ h => h) (Or.inl ⟨by rfl, ?_⟩) (by assumption) ?_
            rotate_left
            · intro w hSw; (try dsimp only at hSw); go_simp; try (with_reducible rfl)
            try simp only [Act.put, List.setIfInBounds_toArray, List.set_cons_zero, List.set_cons_succ, List.getElem_toArray, List.getElem_cons_zero, List.getElem_cons_succ]
            refine wpTop.take 6 (v := ?_) rfl (by kernel_rfl) (by kernel_rfl) (by kernel_rfl) (by kernel_rfl) (fun _ _ _ h => h) (Or.inl ⟨by rfl, ?_⟩) (by assumption) ?_
            rotate_left
            · intro w hSw; (try dsimp only at hSw); go_simp; try (with_reducible rfl)
            try simp only [Act.put, List.setIfInBounds_toArray, List.set_cons_zero, List.set_cons_succ, List.getElem_toArray, List.getElem_cons_zero, List.getElem_cons_succ]
            refine wpTop.take 7 (v := ?_) rfl (by kernel_rfl) (by kernel_rfl) (by kernel_rfl) (by kernel_rfl) (fun _ _ _ h => h) (Or.inl ⟨by rfl, ?_⟩) (by assumption) ?_
            rotate_left
            · intro w hSw; (try dsimp only at hSw); go_simp; try (with_reducible rfl)
            try simp only [Act.put, List.setIfInBounds_toArray, List.set_cons_zero, List.set_cons_succ, List.getElem_toArray, List.getElem_cons_zero, List.getElem_cons_succ]
            refine wpTop.one 10 rfl (by kernel_rfl) (fun K hK => ?_)
            go_simp
            refine hK.out _ _ (fun _ => HS _ (by repeat (first | (with_reducible exact hbc) | (with_reducible exact Below.refl _ _) | (with_reducible refine Below.drew ?_) | (with_reducible refine Below.alloc ?_ (by first | omega | (simp; omega) | (simp; done)) _) | (with_reducible refine Below.setCell ?_ (by first | omega | (simp; omega) | (simp; done)) _)))) (fun hH => ?_)
            clear hK K
            have hHeld := hH (by decide)
            clear hH
            try simp only [Act.put, List.setIfInBounds_toArray, List.set_cons_zero, List.set_cons_succ, List.getElem_toArray, List.getElem_cons_zero, List.getElem_cons_succ]
            refine wpTop.one 11 rfl (by kernel_rfl) (fun K hK => ?_)
            go_simp
            refine hK.out _ _ (fun _ => HS _ (by repeat (first | (with_reducible exact hbc) | (with_reducible exact Below.refl _ _) | (with_reducible refine Below.drew ?_) | (with_reducible refine Below.alloc ?_ (by first | omega | (simp; omega) | (simp; done)) _) | (with_reducible refine Below.setCell ?_ (by first | omega | (simp; omega) | (simp; done)) _)))) (fun hH => ?_)
            clear hK K
            have hHeld := hH (by decide)
            clear hH
            try simp only [Act.put, List.setIfInBounds_toArray, List.set_cons_zero, List.set_cons_succ, List.getElem_toArray, List.getElem_cons_zero, List.getElem_cons_succ]
            refine wpTop.all (by kernel_rfl) ?_ _
            go_wp2_with fail
            go_meet
            exact ⟨_, _, A5, c5, A6, c6, rfl, rfl, R2.early hbc (by omega) (by omega) (by omega) (by omega) (by omega) (by omega) e10 e11 e12 e00 e01 e02 O5 O6 hd⟩
      case rest =>
        obtain ⟨g, h, A1, c1, A2, c2, rfl, rfl, JJ⟩ := hcut
        have K5 := K4.next JJ.bel
        clear r0 r1 r2 s0 s1 s2 t0 t1 t2 v0 v1 v2 b0 b1 b2
        have hg0 := JJ.g0
        have hh0 := JJ.h0
        have ⟨r0, r1, r2⟩ := K5.r 1 (.inl rfl)
        have ⟨s0, s1, s2⟩ := K5.r 2 (.inr rfl)
        have t0 := K5.f 1 0 (.inl rfl)
        have t1 := K5.f 1 1 (.inl rfl)
        have t2 := K5.f 1 2 (.inl rfl)
        have v0 := K5.f 2 0 (.inr rfl)
        have v1 := K5.f 2 1 (.inr rfl)
        have v2 := K5.f 2 2 (.inr rfl)
        obtain ⟨la, p0, p1, p2⟩ := id JJ.a
        obtain ⟨lb, q0, q1, q2⟩ := id JJ.b
        obtain ⟨M1, hM1⟩ : ∃ M, (J.paX a L) = M := ⟨_, rfl⟩
        obtain ⟨M2, hM2⟩ : ∃ M, (J.pbX a L) = M := ⟨_, rfl⟩
        rw [hM1] at JJ p2
        rw [hM2] at JJ q2
        have HM1 := Lib.hid hM1
        have HM2 := Lib.hid hM2
        clear hM1 hM2
        have HJ := Lib.hid JJ
        clear JJ
        go_wp2_with fail
        have n8 : w.heap.size + 1 ≠ g := by omega
        have n9 : w.heap.size + 1 ≠ h := by omega
        have n8' : w.heap.size + 1 + 1 ≠ g := by omega
        have n9' : w.heap.size + 1 + 1 ≠ h := by omega
        have m8 := n8.symm
        have m9 := n9.symm
        have m8' := n8'.symm
        have m9' := n9'.symm
        refine wp_region_top 5 (fun w' => w'.cell? ⟨g, 0, none⟩ = some (.int .i64 (a)) ∧ w'.cell? ⟨g, 1, none⟩ = some (.int .i64 (H)) ∧ w'.cell? ⟨g, 2, none⟩ = some (.slice A1 (M1).length c1) ∧ w'.cell? ⟨h, 0, none⟩ = some (.int .i64 (W - a)) ∧ w'.cell? ⟨h, 1, none⟩ = some (.int .i64 (H)) ∧ w'.cell? ⟨h, 2, none⟩ = some (.slice A2 (M2).length c2)) (by kernel_rfl) ⟨p0, p1, p2, q0, q1, q2⟩ (fun hHeld => ?_)
        refine wpTop.take 0 (v := ?_) rfl (by kernel_rfl) (by kernel_rfl) (by kernel_rfl) (by kernel_rfl) (fun _ _ _ h => h) (Or.inl ⟨by rfl, ?_⟩) (by assumption) ?_
        rotate_left
        · intro w hSw; (try dsimp only at hSw); go_simp; try (with_reducible rfl)
        try simp only [Act.put, List.setIfInBounds_toArray, List.set_cons_zero, List.set_cons_succ, List.getElem_toArray, List.getElem_cons_zero, List.getElem_cons_succ]
        refine wpTop.take 1 (v := ?_) rfl (by kernel_rfl) (by kernel_rfl) (by kernel_rfl) (by kernel_rfl) (fun _ _ _ h => h) (Or.inl ⟨by rfl, ?_⟩) (by assumption) ?_
        rotate_left
        · intro w hSw; (try dsimp only at hSw); go_simp; try (with_reducible rfl)
        try simp only [Act.put, List.setIfInBounds_toArray, List.set_cons_zero, List.set_cons_succ, List.getElem_toArray, List.getElem_cons_zero, List.getElem_cons_succ]
        refine wpTop.one 2 rfl (by kernel_rfl) (fun K hK => ?_)
        go_simp
        refine hK.out _ _ (fun _ => (by refine ⟨?_, ?_, ?_, ?_, ?_, ?_⟩ <;> simp [go_sem, p0, p1, p2, q0, q1, q2, n8, n9, m8, m9, n8', n9', m8', m9'])) (fun hH => ?_)
        clear hK K
        have hHeld := hH (by decide)
        clear hH
        try simp only [Act.put, List.setIfInBounds_toArray, List.set_cons_zero, List.set_cons_succ, List.getElem_toArray, List.getElem_cons_zero, List.getElem_cons_succ]
        refine wpTop.one 3 rfl (by kernel_rfl) (fun K hK => ?_)
        go_simp
        refine hK.out _ _ (fun _ => (by refine ⟨?_, ?_, ?_, ?_, ?_, ?_⟩ <;> simp [go_sem, p0, p1, p2, q0, q1, q2, n8, n9, m8, m9, n8', n9', m8', m9'])) (fun hH => ?_)
        clear hK K
        have hHeld := hH (by decide)
        clear hH
        try simp only [Act.put, List.setIfInBounds_toArray, List.set_cons_zero, List.set_cons_succ, List.getElem_toArray, List.getElem_cons_zero, List.getElem_cons_succ]
        refine wpTop.one 4 rfl (by kernel_rfl) (fun K hK => ?_)
        go_simp
        refine hK.out _ _ (fun _ => (by refine ⟨?_, ?_, ?_, ?_, ?_, ?_⟩ <;> simp [go_sem, p0, p1, p2, q0, q1, q2, n8, n9, m8, m9, n8', n9', m8', m9'])) (fun hH => ?_)
        clear hK K
        have hHeld := hH (by decide)
        clear hH
        try simp only [Act.put, List.setIfInBounds_toArray, List.set_cons_zero, List.set_cons_succ, List.getElem_toArray, List.getElem_cons_zero, List.getElem_cons_succ]
        refine wpTop.all (by kernel_rfl) ?_ _
        go_wp2_with fail
        have hB := bel3 (g := w.heap.size + 1 + 1) (x := .int .i64 (W - a)) (y := .int .i64 (H)) (z := .slice A2 M2.length c2) (bel3 (g := w.heap.size + 1) (x := .int .i64 (a)) (y := .int .i64 (H)) (z := .slice A1 M1.length c1) K5.below (by omega)) (by omega)
        have P1 := own_base (base' := w.heap.size) (own3 (g := w.heap.size + 1 + 1) (x := .int .i64 (W - a)) (y := .int .i64 (H)) (z := .slice A2 M2.length c2) (own3 (g := w.heap.size + 1) (x := .int .i64 (a)) (y := .int .i64 (H)) (z := .slice A1 M1.length c1) HJ.out.o1 (by omega)) (by omega)) (by omega)
        have P2 := own_base (base' := w.heap.size) (own3 (g := w.heap.size + 1 + 1) (x := .int .i64 (W - a)) (y := .int .i64 (H)) (z := .slice A2 M2.length c2) (own3 (g := w.heap.size + 1) (x := .int .i64 (a)) (y := .int .i64 (H)) (z := .slice A1 M1.length c1) HJ.out.o2 (by omega)) (by omega)) (by omega)
        have s0' : wc.cell? ⟨w.heap.size + 1 + 1, 0, none⟩ = some (.int .i64 0) := s0
        have s1' : wc.cell? ⟨w.heap.size + 1 + 1, 1, none⟩ = some (.int .i64 0) := s1
        have s2' : wc.cell? ⟨w.heap.size + 1 + 1, 2, none⟩ = some (.slice none 0 0) := s2
        refine bodyPost_ret (v := .tuple #[.agg #[.int .i64 (a), .int .i64 (H), .slice A1 M1.length c1], .agg #[.int .i64 (W - a), .int .i64 (H), .slice A2 M2.length c2], .bool true]) (by simp [results, Try.results34, go_sem, r0, r1, r2, s0', s1', s2']) rfl ?_
        rw [HLN.out]
        show RetPt w ⟨a, H, J.paX a L, W - a, H, J.pbX a L, true⟩ _ _
        rw [HM1.out, HM2.out]
        first | exact ⟨A1, c1, A2, c2, rfl, P1.drew, P2.drew, HJ.out.dis, hB.drew⟩ | exact ⟨A1, c1, A2, c2, rfl, P1, P2, HJ.out.dis, hB⟩
set_option maxRecDepth 100000 in
set_option maxHeartbeats 16000000 in
theorem specPartAcross_any (W H : Int) (A : Option Addr) (n c : Nat) (L : List Sq) (w : World) (hl : L.length = n) (hc : n ≤ c) (hL : SqsAt w w.heap.size A L) :
    Calls Try.prog 32 #[.agg #[.int .i64 W, .int .i64 H, .slice A n c]] w (RetPt w (acPt W H L)) := by
  subst hl
  have K1 := PB.start w W H A L.length c
  obtain ⟨W1, hW1⟩ : ∃ x, x = (((w.alloc (.cells #[.int .i64 W, .int .i64 H, .slice A L.length c] 29)).alloc (.cells #[.int .i64 0, .int .i64 0, .slice none 0 0] 29)).alloc (.cells #[.int .i64 0, .int .i64 0, .slice none 0 0] 29)) := ⟨_, rfl⟩
  rw [← hW1] at K1
  have HL := Lib.hid hL
  by_cases hG : Good W H L
  case neg =>
    rw [acPt_no hG]
    go_enter Try.func32, Try.ntmps32
    go_wp2_with fail
    rw [← hW1]
    refine (callB_no (cuGood_any W H A _ c L _ rfl hc ((hL.below K1.below).mono K1.below.size)) hG).mono ?_
    rintro e w2 ⟨rfl, hb2⟩
    have K4 := K1.next hb2
    clear hb2 K1 hW1
    have ⟨r0, r1, r2⟩ := K4.r 1 (.inl rfl)
    have ⟨s0, s1, s2⟩ := K4.r 2 (.inr rfl)
    have t0 := K4.f 1 0 (.inl rfl)
    have t1 := K4.f 1 1 (.inl rfl)
    have t2 := K4.f 1 2 (.inl rfl)
    have v0 := K4.f 2 0 (.inr rfl)
    have v1 := K4.f 2 1 (.inr rfl)
    have v2 := K4.f 2 2 (.inr rfl)
    go_wp2_with fail
    have hB := (((((K4.below.setCell (p := ⟨w.heap.size + 1, 0, none⟩) (by simp) (.int .i64 0)).setCell (p := ⟨w.heap.size + 1, 1, none⟩) (by simp) (.int .i64 0)).setCell (p := ⟨w.heap.size + 1, 2, none⟩) (by simp) (.slice none 0 0)).setCell (p := ⟨w.heap.size + 2, 0, none⟩) (by simp) (.int .i64 0)).setCell (p := ⟨w.heap.size + 2, 1, none⟩) (by simp) (.int .i64 0)).setCell (p := ⟨w.heap.size + 2, 2, none⟩) (by simp) (.slice none 0 0)
    refine bodyPost_ret (v := .tuple #[.agg #[.int .i64 0, .int .i64 0, .slice none 0 0], .agg #[.int .i64 0, .int .i64 0, .slice none 0 0], .bool false]) (by simp [results, Try.results32, go_sem, r0, r1, r2, s0, s1, s2]) rfl ?_
    exact RetPt.none_ hB
  case pos =>
    rw [acPt_yes hG]
    have hmem := fun a (h : a ∈ J.lnD (J.swL L) H.toNat) => J.lnD_mem h
    go_enter Try.func32, Try.ntmps32
    go_wp2_with fail
    rw [← hW1]
    refine (callB_yes (cuGood_any W H A _ c L _ rfl hc ((hL.below K1.below).mono K1.below.size)) hG).mono ?_
    rintro e w2 ⟨rfl, hb2⟩
    have K2 := K1.next hb2
    clear hb2 K1 hW1
    have b0 := K2.a0
    have b1 := K2.a1
    have b2 := K2.a2
    have hzz := K2.size
    go_wp2_with fail
    refine (joLinesAcross_any W H A _ c L w2 rfl ((hL.below K2.below).mono K2.below.size) hG).mono ?_
    rintro e w3 ⟨A3, c3, rfl, ho3, hb3⟩
    have K4 := K2.next hb3
    clear b0 b1 b2 hzz K2 hb3
    have ⟨r0, r1, r2⟩ := K4.r 1 (.inl rfl)
    have ⟨s0, s1, s2⟩ := K4.r 2 (.inr rfl)
    have t0 := K4.f 1 0 (.inl rfl)
    have t1 := K4.f 1 1 (.inl rfl)
    have t2 := K4.f 1 2 (.inl rfl)
    have v0 := K4.f 2 0 (.inr rfl)
    have v1 := K4.f 2 1 (.inr rfl)
    have v2 := K4.f 2 2 (.inr rfl)
    have b0 := K4.a0
    have b1 := K4.a1
    have b2 := K4.a2
    have hzz := K4.size
    cases hln : J.lnD (J.swL L) H.toNat with
    | nil =>
      rw [hln] at ho3
      go_wp2_with fail
      have hB := (((((K4.below.setCell (p := ⟨w.heap.size + 1, 0, none⟩) (by simp) (.int .i64 0)).setCell (p := ⟨w.heap.size + 1, 1, none⟩) (by simp) (.int .i64 0)).setCell (p := ⟨w.heap.size + 1, 2, none⟩) (by simp) (.slice none 0 0)).setCell (p := ⟨w.heap.size + 2, 0, none⟩) (by simp) (.int .i64 0)).setCell (p := ⟨w.heap.size + 2, 1, none⟩) (by simp) (.int .i64 0)).setCell (p := ⟨w.heap.size + 2, 2, none⟩) (by simp) (.slice none 0 0)
      refine bodyPost_ret (v := .tuple #[.agg #[.int .i64 0, .int .i64 0, .slice none 0 0], .agg #[.int .i64 0, .int .i64 0, .slice none 0 0], .bool false]) (by simp [results, Try.results32, go_sem, r0, r1, r2, s0, s1, s2]) rfl ?_
      rw [hln, show acF W H L [] = noPt from rfl]
      exact RetPt.none_ hB
    | cons a r =>
      have ha := hmem a (by rw [hln]; exact List.mem_cons_self)
      have ha1 : 0 ≤ a ∧ a ≤ H := by have := ha.1; have := hG.1; have := hG.2.1; omega
      rw [hln] at ho3
      have HLN := Lib.hid hln
      clear hln hmem
      obtain ⟨gl, el, hgl, cl⟩ : ∃ gl, A3 = some ⟨gl, 0, none⟩ ∧ gl < w3.heap.size ∧ w3.cell? ⟨gl, 0, none⟩ = some (.int .i64 a) := by
        have h2 := ho3.2
        rcases h2 with ⟨e1, e2⟩ | ⟨g, cap, cur, e1, _⟩
        · simp at e2
        · cases e1
          exact ⟨g, rfl, (own_lt ho3).2, by rw [ho3.cellAt 0 (by simp)]; rfl⟩
      subst el
      have CJ : ∀ w', Below w3.heap.size w3 w' → Calls Try.prog 75 #[.agg #[.int .i64 W, .int .i64 H, .slice A L.length c], .int .i64 a, .bool false] w' (RetJ w' W a (J.paY a L) W (H - a) (J.pbY a L)) := fun w' hb =>
        joPartAcross_any W H a A L.length c L w' rfl ((HL.out.below (K4.next hb).below).mono (K4.next hb).below.size) hG ha1
      have l0 : (0 : Int) < ((r.length + 1 : Nat) : Int) := by omega
      have HC := Lib.hid CJ
      clear ho3 CJ
      go_upto_region 6 with fail
      go_cut [6, 7] (fun p q wx => ∃ g h A1 c1 A2 c2, p = .pointer (some ⟨g, 0, none⟩) ∧ q = .pointer (some ⟨h, 0, none⟩) ∧ R2 w3 g h W a A1 c1 (J.paY a L) W (H - a) A2 c2 (J.pbY a L) wx)
      case first =>
        have HS : ∀ w' : World, Below w3.heap.size w3 w' → w'.cell? ⟨w.heap.size, 0, none⟩ = some (.int .i64 W) ∧ w'.cell? ⟨w.heap.size, 1, none⟩ = some (.int .i64 H) ∧ w'.cell? ⟨w.heap.size, 2, none⟩ = some (.slice A L.length c) ∧ w'.cell? ⟨gl, 0, none⟩ = some (.int .i64 a) := fun w' hb => ⟨(hb.cell (p := ⟨_, _, none⟩) (by show w.heap.size < _; omega)).trans b0, (hb.cell (p := ⟨_, _, none⟩) (by show w.heap.size < _; omega)).trans b1, (hb.cell (p := ⟨_, _, none⟩) (by show w.heap.size < _; omega)).trans b2, (hb.cell (p := ⟨_, _, none⟩) hgl).trans cl⟩
        refine wp_region_top 12 (fun w' => w'.cell? ⟨w.heap.size, 0, none⟩ = some (.int .i64 W) ∧ w'.cell? ⟨w.heap.size, 1, none⟩ = some (.int .i64 H) ∧ w'.cell? ⟨w.heap.size, 2, none⟩ = some (.slice A L.length c) ∧ w'.cell? ⟨gl, 0, none⟩ = some (.int .i64 a)) (by kernel_rfl) (HS _ ((Below.refl _ _).drew)) (fun hHeld => ?_)
        refine wpTop.take 0 (v := ?_) rfl (by kernel_rfl) (by kernel_rfl) (by kernel_rfl) (by kernel_rfl) (fun _ _ _ h => h) (Or.inl ⟨by rfl, ?_⟩) (by assumption) ?_
        rotate_left
        · intro w hSw; (try dsimp only at hSw); go_simp; try (with_reducible rfl)
        try simp only [Act.put, List.setIfInBounds_toArray, List.set_cons_zero, List.set_cons_succ, List.getElem_toArray, List.getElem_cons_zero, List.getElem_cons_succ]
        refine wpTop.take 1 (v := ?_) rfl (by kernel_rfl) (by kernel_rfl) (by kernel_rfl) (by kernel_rfl) (fun _ _ _ h => h) (Or.inl ⟨by rfl, ?_⟩) (by assumption) ?_
        rotate_left
        · intro w hSw; (try dsimp only at hSw); go_simp; try (with_reducible rfl)
        try simp only [Act.put, List.setIfInBounds_toArray, List.set_cons_zero, List.set_cons_succ, List.getElem_toArray, List.getElem_cons_zero, List.getElem_cons_succ]
        refine wpTop.take 2 (v := ?_) rfl (by kernel_rfl) (by kernel_rfl) (by kernel_rfl) (by kernel_rfl) (fun _ _ _ h => h) (Or.inl ⟨by rfl, ?_⟩) (by assumption) ?_
        rotate_left
        · intro w hSw; (try dsimp only at hSw); go_simp; try (with_reducible rfl)
        try simp only [Act.put, List.setIfInBounds_toArray, List.set_cons_zero, List.set_cons_succ, List.getElem_toArray, List.getElem_cons_zero, List.getElem_cons_succ]
        refine wpTop.take 3 (v := ?_) rfl (by kernel_rfl) (by kernel_rfl) (by kernel_rfl) (by kernel_rfl) (fun _ _ _ h => h) (Or.inl ⟨by rfl, ?_⟩) (by assumption) ?_
        rotate_left
        · intro w hSw; (try dsimp only at hSw); go_simp; try (with_reducible rfl)
        try simp only [Act.put, List.setIfInBounds_toArray, List.set_cons_zero, List.set_cons_succ, List.getElem_toArray, List.getElem_cons_zero, List.getElem_cons_succ]
        refine wpTop.three 4 8 9 (by kernel_rfl) ?_ ?_ ?_
        · refine wpTop.go 4 rfl (fun K hK => ?_)
          go_simp
          (with_reducible refine (HC.out _ ((Below.refl _ _).drew)).mono ?_)
          rintro e w4 ⟨A5, c5, A6, c6, rfl, o5, o6, hd, hb4⟩
          have hbc : Below w3.heap.size w3 w4 := Below.trans ((Below.refl _ _).drew) (hb4.mono (by first | (simp; done) | (simp; omega)))
          have hsz4 := hb4.size
          simp at hsz4
          have hszb := hbc.size
          have O5 : w4.ownsRow (w3.heap.size) 65 3 (.slice A5 (J.paY a L).length c5) (J.paY a L).length (flat (J.paY a L)) := by simpa using o5
          have O6 : w4.ownsRow (w3.heap.size) 65 3 (.slice A6 (J.pbY a L).length c6) (J.pbY a L).length (flat (J.pbY a L)) := by simpa using o6
          clear o5 o6
          refine hK.out _ _ (fun _ => HS _ hbc) (fun hH => ?_)
          clear hK K
          have hHeld := hH (by decide)
          clear hH
          try simp only [Act.put, List.setIfInBounds_toArray, List.set_cons_zero, List.set_cons_succ, List.getElem_toArray, List.getElem_cons_zero, List.getElem_cons_succ]
          refine wpTop.take 5 (v := ?_) rfl (by kernel_rfl) (by kernel_rfl) (by kernel_rfl) (by kernel_rfl) (fun _ _ _ h => h) (Or.inl ⟨by rfl, ?_⟩) (by assumption) ?_
          rotate_left
          · intro w hSw; (try dsimp only at hSw); go_simp; try (with_reducible rfl)
          try simp only [Act.put, List.setIfInBounds_toArray, List.set_cons_zero, List.set_cons_succ, List.getElem_toArray, List.getElem_cons_zero, List.getElem_cons_succ]
          refine wpTop.take 6 (v := ?_) rfl (by kernel_rfl) (by kernel_rfl) (by kernel_rfl) (by kernel_rfl) (fun _ _ _ h => h) (Or.inl ⟨by rfl, ?_⟩) (by assumption) ?_
          rotate_left
          · intro w hSw; (try dsimp only at hSw); go_simp; try (with_reducible rfl)
          try simp only [Act.put, List.setIfInBounds_toArray, List.set_cons_zero, List.set_cons_succ, List.getElem_toArray, List.getElem_cons_zero, List.getElem_cons_succ]
          refine wpTop.take 7 (v := ?_) rfl (by kernel_rfl) (by kernel_rfl) (by kernel_rfl) (by kernel_rfl) (fun _ _ _ h => h) (Or.inl ⟨by rfl, ?_⟩) (by assumption) ?_
          rotate_left
          · intro w hSw; (try dsimp only at hSw); go_simp; try (with_reducible rfl)
          try simp only [Act.put, List.setIfInBounds_toArray, List.set_cons_zero, List.set_cons_succ, List.getElem_toArray, List.getElem_cons_zero, List.getElem_cons_succ]
          refine wpTop.two 8 9 (by kernel_rfl) ?_ ?_
          · refine wpTop.go 8 rfl (fun K hK => ?_)
            go_simp
            refine hK.out _ _ (fun _ => HS _ (by repeat (first | (with_reducible exact hbc) | (with_reducible exact Below.refl _ _) | (with_reducible refine Below.drew ?_) | (with_reducible refine Below.alloc ?_ (by first | omega | (simp; omega) | (simp; done)) _) | (with_reducible refine Below.setCell ?_ (by first | omega | (simp; omega) | (simp; done)) _)))) (fun hH => ?_)
            clear hK K
            have hHeld := hH (by decide)
            clear hH
            try simp only [Act.put, List.setIfInBounds_toArray, List.set_cons_zero, List.set_cons_succ, List.getElem_toArray, List.getElem_cons_zero, List.getElem_cons_succ]
            refine wpTop.one 9 rfl (by kernel_rfl) (fun K hK => ?_)
            go_simp
            refine hK.out _ _ (fun _ => HS _ (by repeat (first | (with_reducible exact hbc) | (with_reducible exact Below.refl _ _) | (with_reducible refine Below.drew ?_) | (with_reducible refine Below.alloc ?_ (by first | omega | (simp; omega) | (simp; done)) _) | (with_reducible refine Below.setCell ?_ (by first | omega | (simp; omega) | (simp; done)) _)))) (fun hH => ?_)
            clear hK K
            have hHeld := hH (by decide)
            clear hH
            try simp only [Act.put, List.setIfInBounds_toArray, List.set_cons_zero, List.set_cons_succ, List.getElem_toArray, List.getElem_cons_zero, List.getElem_cons_succ]
            refine wpTop.one 10 rfl (by kernel_rfl) (fun K hK => ?_)
            go_simp
            refine hK.out _ _ (fun _ => HS _ (by repeat (first | (with_reducible exact hbc) | (with_reducible exact Below.refl _ _) | (with_reducible refine Below.drew ?_) | (with_reducible refine Below.alloc ?_ (by first | omega | (simp; omega) | (simp; done)) _) | (with_reducible refine Below.setCell ?_ (by first | omega | (simp; omega) | (simp; done)) _)))) (fun hH => ?_)
            clear hK K
            have hHeld := hH (by decide)
            clear hH
            try simp only [Act.put, List.setIfInBounds_toArray, List.set_cons_zero, List.set_cons_succ, List.getElem_toArray, List.getElem_cons_zero, List.getElem_cons_succ]
            refine wpTop.one 11 rfl (by kernel_rfl) (fun K hK => ?_)
            go_simp
            refine hK.out _ _ (fun _ => HS _ (by repeat (first | (with_reducible exact hbc) | (with_reducible exact Below.refl _ _) | (with_reducible refine Below.drew ?_) | (with_reducible refine Below.alloc ?_ (by first | omega | (simp; omega) | (simp; done)) _) | (with_reducible refine Below.setCell ?_ (by first | omega | (simp; omega) | (simp; done)) _)))) (fun hH => ?_)
            clear hK K
            have hHeld := hH (by decide)
            clear hH
            try simp only [Act.put, List.setIfInBounds_toArray, List.set_cons_zero, List.set_cons_succ, List.getElem_toArray, List.getElem_cons_zero, List.getElem_cons_succ]
            refine wpTop.all (by kernel_rfl) ?_ _
            go_wp2_with fail
            go_meet
            exact ⟨_, _, A5, c5, A6, c6, rfl, rfl, R2.late hbc O5 O6 hd⟩
          · refine wpTop.go 9 rfl (fun K hK => ?_)
            go_simp
            refine hK.out _ _ (fun _ => HS _ (by repeat (first | (with_reducible exact hbc) | (with_reducible exact Below.refl _ _) | (with_reducible refine Below.drew ?_) | (with_reducible refine Below.alloc ?_ (by first | omega | (simp; omega) | (simp; done)) _) | (with_reducible refine Below.setCell ?_ (by first | omega | (simp; omega) | (simp; done)) _)))) (fun hH => ?_)
            clear hK K
            have hHeld := hH (by decide)
            clear hH
            try simp only [Act.put, List.setIfInBounds_toArray, List.set_cons_zero, List.set_cons_succ, List.getElem_toArray, List.getElem_cons_zero, List.getElem_cons_succ]
            refine wpTop.one 8 rfl (by kernel_rfl) (fun K hK => ?_)
            go_simp
            refine hK.out _ _ (fun _ => HS _ (by repeat (first | (with_reducible exact hbc) | (with_reducible exact Below.refl _ _) | (with_reducible refine Below.drew ?_) | (with_reducible refine Below.alloc ?_ (by first | omega | (simp; omega) | (simp; done)) _) | (with_reducible refine Below.setCell ?_ (by first | omega | (simp; omega) | (simp; done)) _)))) (fun hH => ?_)
            clear hK K
            have hHeld := hH (by decide)
            clear hH
            try simp only [Act.put, List.setIfInBounds_toArray, List.set_cons_zero, List.set_cons_succ, List.getElem_toArray, List.getElem_cons_zero, List.getElem_cons_succ]
            refine wpTop.one 10 rfl (by kernel_rfl) (fun K hK => ?_)
            go_simp
            refine hK.out _ _ (fun _ => HS _ (by repeat (first | (with_reducible exact hbc) | (with_reducible exact Below.refl _ _) | (with_reducible refine Below.drew ?_) | (with_reducible refine Below.alloc ?_ (by first | omega | (simp; omega) | (simp; done)) _) | (with_reducible refine Below.setCell ?_ (by first | omega | (simp; omega) | (simp; done)) _)))) (fun hH => ?_)
            clear hK K
            have hHeld := hH (by decide)
            clear hH
            try simp only [Act.put, List.setIfInBounds_toArray, List.set_cons_zero, List.set_cons_succ, List.getElem_toArray, List.getElem_cons_zero, List.getElem_cons_succ]
            refine wpTop.one 11 rfl (by kernel_rfl) (fun K hK => ?_)
            go_simp
            refine hK.out _ _ (fun _ => HS _ (by repeat (first | (with_reducible exact hbc) | (with_reducible exact Below.refl _ _) | (with_reducible refine Below.drew ?_) | (with_reducible refine Below.alloc ?_ (by first | omega | (simp; omega) | (simp; done)) _) | (with_reducible refine Below.setCell ?_ (by first | omega | (simp; omega) | (simp; done)) _)))) (fun hH => ?_)
            clear hK K
            have hHeld := hH (by decide)
            clear hH
            try simp only [Act.put, List.setIfInBounds_toArray, List.set_cons_zero, List.set_cons_succ, List.getElem_toArray, List.getElem_cons_zero, List.getElem_cons_succ]
            refine wpTop.all (by kernel_rfl) ?_ _
            go_wp2_with fail
            go_meet
            exact ⟨_, _, A5, c5, A6, c6, rfl, rfl, (R2.late hbc O6 O5 (fun k h1 h2 => hd k h2 h1)).swap⟩
        · refine wpTop.go 8 rfl (fun K hK => ?_)
          go_simp
          refine hK.out _ _ (fun _ => HS _ (by repeat (first | (with_reducible exact hbc) | (with_reducible exact Below.refl _ _) | (with_reducible refine Below.drew ?_) | (with_reducible refine Below.alloc ?_ (by first | omega | (simp; omega) | (simp; done)) _) | (with_reducible refine Below.setCell ?_ (by first | omega | (simp; omega) | (simp; done)) _)))) (fun hH => ?_)
          clear hK K
          have hHeld := hH (by decide)
          clear hH
          try simp only [Act.put, List.setIfInBounds_toArray, List.set_cons_zero, List.set_cons_succ, List.getElem_toArray, List.getElem_cons_zero, List.getElem_cons_succ]
          refine wpTop.two 4 9 (by kernel_rfl) ?_ ?_
          · refine wpTop.go 4 rfl (fun K hK => ?_)
            go_simp
            (with_reducible refine (HC.out _ (((Below.refl _ _).alloc (Nat.le_refl _) _).drew)).mono ?_)
            rintro e w4 ⟨A5, c5, A6, c6, rfl, o5, o6, hd, hb4⟩
            have hbc : Below w3.heap.size w3 w4 := Below.trans (((Below.refl _ _).alloc (Nat.le_refl _) _).drew) (hb4.mono (by first | (simp; done) | (simp; omega)))
            have hsz4 := hb4.size
            simp at hsz4
            have hszb := hbc.size
            have e00 : w4.cell? ⟨w3.heap.size, 0, none⟩ = some (.int .i64 0) := (hb4.cell (p := ⟨_, _, none⟩) (by first | (simp; done) | (simp; omega))).trans (by simp)
            have f00 : w4.frozen? ⟨w3.heap.size, 0, none⟩ = false := (hb4.frozen (p := ⟨_, _, none⟩) (by first | (simp; done) | (simp; omega))).trans (by simp [go_sem])
            have e01 : w4.cell? ⟨w3.heap.size, 1, none⟩ = some (.int .i64 0) := (hb4.cell (p := ⟨_, _, none⟩) (by first | (simp; done) | (simp; omega))).trans (by simp)
            have f01 : w4.frozen? ⟨w3.heap.size, 1, none⟩ = false := (hb4.frozen (p := ⟨_, _, none⟩) (by first | (simp; done) | (simp; omega))).trans (by simp [go_sem])
            have e02 : w4.cell? ⟨w3.heap.size, 2, none⟩ = some (.slice none 0 0) := (hb4.cell (p := ⟨_, _, none⟩) (by first | (simp; done) | (simp; omega))).trans (by simp)
            have f02 : w4.frozen? ⟨w3.heap.size, 2, none⟩ = false := (hb4.frozen (p := ⟨_, _, none⟩) (by first | (simp; done) | (simp; omega))).trans (by simp [go_sem])
            have lt0 : w3.heap.size < w4.heap.size := by omega
            have ne0 : w3.heap.size ≠ w4.heap.size := by omega
            have en0 : w4.heap.size ≠ w3.heap.size := by omega
            have O5 : w4.ownsRow (w3.heap.size + 1) 65 3 (.slice A5 (J.paY a L).length c5) (J.paY a L).length (flat (J.paY a L)) := by simpa using o5
            have O6 : w4.ownsRow (w3.heap.size + 1) 65 3 (.slice A6 (J.pbY a L).length c6) (J.pbY a L).length (flat (J.pbY a L)) := by simpa using o6
            clear o5 o6
            refine hK.out _ _ (fun _ => HS _ hbc) (fun hH => ?_)
            clear hK K
            have hHeld := hH (by decide)
            clear hH
            try simp only [Act.put, List.setIfInBounds_toArray, List.set_cons_zero, List.set_cons_succ, List.getElem_toArray, List.getElem_cons_zero, List.getElem_cons_succ]
            refine wpTop.take 5 (v := ?_) rfl (by kernel_rfl) (by kernel_rfl) (by kernel_rfl) (by kernel_rfl) (fun _ _ _ h => h) (Or.inl ⟨by rfl, ?_⟩) (by assumption) ?_
            rotate_left
            · intro w hSw; (try dsimp only at hSw); go_simp; try (with_reducible rfl)
            try simp only [Act.put, List.setIfInBounds_toArray, List.set_cons_zero, List.set_cons_succ, List.getElem_toArray, List.getElem_cons_zero, List.getElem_cons_succ]
            refine wpTop.take 6 (v := ?_) rfl (by kernel_rfl) (by kernel_rfl) (by kernel_rfl) (by kernel_rfl) (fun _ _ _ h => h) (Or.inl ⟨by rfl, ?_⟩) (by assumption) ?_
            rotate_left
            · intro w hSw; (try dsimp only at hSw); go_simp; try (with_reducible rfl)
            try simp only [Act.put, List.setIfInBounds_toArray, List.set_cons_zero, List.set_cons_succ, List.getElem_toArray, List.getElem_cons_zero, List.getElem_cons_succ]
            refine wpTop.take 7 (v := ?_) rfl (by kernel_rfl) (by kernel_rfl) (by kernel_rfl) (by kernel_rfl) (fun _ _ _ h => h) (Or.inl ⟨by rfl, ?_⟩) (by assumption) ?_
            rotate_left
            · intro w hSw; (try dsimp only at hSw); go_simp; try (with_reducible rfl)
            try simp only [Act.put, List.setIfInBounds_toArray, List.set_cons_zero, List.set_cons_succ, List.getElem_toArray, List.getElem_cons_zero, List.getElem_cons_succ]
            refine wpTop.one 9 rfl (by kernel_rfl) (fun K hK => ?_)
            go_simp
            refine hK.out _ _ (fun _ => HS _ (by repeat (first | (with_reducible exact hbc) | (with_reducible exact Below.refl _ _) | (with_reducible refine Below.drew ?_) | (with_reducible refine Below.alloc ?_ (by first | omega | (simp; omega) | (simp; done)) _) | (with_reducible refine Below.setCell ?_ (by first | omega | (simp; omega) | (simp; done)) _)))) (fun hH => ?_)
            clear hK K
            have hHeld := hH (by decide)
            clear hH
            try simp only [Act.put, List.setIfInBounds_toArray, List.set_cons_zero, List.set_cons_succ, List.getElem_toArray, List.getElem_cons_zero, List.getElem_cons_succ]
            refine wpTop.one 10 rfl (by kernel_rfl) (fun K hK => ?_)
            go_simp
            refine hK.out _ _ (fun _ => HS _ (by repeat (first | (with_reducible exact hbc) | (with_reducible exact Below.refl _ _) | (with_reducible refine Below.drew ?_) | (with_reducible refine Below.alloc ?_ (by first | omega | (simp; omega) | (simp; done)) _) | (with_reducible refine Below.setCell ?_ (by first | omega | (simp; omega) | (simp; done)) _)))) (fun hH => ?_)
            clear hK K
            have hHeld := hH (by decide)
            clear hH
            try simp only [Act.put, List.setIfInBounds_toArray, List.set_cons_zero, List.set_cons_succ, List.getElem_toArray, List.getElem_cons_zero, List.getElem_cons_succ]
            refine wpTop.one 11 rfl (by kernel_rfl) (fun K hK => ?_)
            go_simp
            refine hK.out _ _ (fun _ => HS _ (by repeat (first | (with_reducible exact hbc) | (with_reducible exact Below.refl _ _) | (with_reducible refine Below.drew ?_) | (with_reducible refine Below.alloc ?_ (by first | omega | (simp; omega) | (simp; done)) _) | (with_reducible refine Below.setCell ?_ (by first | omega | (simp; omega) | (simp; done)) _)))) (fun hH => ?_)
            clear hK K
            have hHeld := hH (by decide)
            clear hH
            try simp only [Act.put, List.setIfInBounds_toArray, List.set_cons_zero, List.set_cons_succ, List.getElem_toArray, List.getElem_cons_zero, List.getElem_cons_succ]
            refine wpTop.all (by kernel_rfl) ?_ _
            go_wp2_with fail
            go_meet
            exact ⟨_, _, A5, c5, A6, c6, rfl, rfl, R2.mid hbc (Nat.le_refl _) lt0 e00 e01 e02 O5 O6 hd⟩
          · refine wpTop.go 9 rfl (fun K hK => ?_)
            go_simp
            refine hK.out _ _ (fun _ => HS _ (by repeat (first | (with_reducible exact hbc) | (with_reducible exact Below.refl _ _) | (with_reducible refine Below.drew ?_) | (with_reducible refine Below.alloc ?_ (by first | omega | (simp; omega) | (simp; done)) _) | (with_reducible refine Below.setCell ?_ (by first | omega | (simp; omega) | (simp; done)) _)))) (fun hH => ?_)
            clear hK K
            have hHeld := hH (by decide)
            clear hH
            try simp only [Act.put, List.setIfInBounds_toArray, List.set_cons_zero, List.set_cons_succ, List.getElem_toArray, List.getElem_cons_zero, List.getElem_cons_succ]
            refine wpTop.one 4 rfl (by kernel_rfl) (fun K hK => ?_)
            go_simp
            (with_reducible refine (HC.out _ ((((Below.refl _ _).alloc (Nat.le_refl _) _).alloc (by simp) _).drew)).mono ?_)
            rintro e w4 ⟨A5, c5, A6, c6, rfl, o5, o6, hd, hb4⟩
            have hbc : Below w3.heap.size w3 w4 := Below.trans ((((Below.refl _ _).alloc (Nat.le_refl _) _).alloc (by simp) _).drew) (hb4.mono (by first | (simp; done) | (simp; omega)))
            have hsz4 := hb4.size
            simp at hsz4
            have hszb := hbc.size
            have e00 : w4.cell? ⟨w3.heap.size, 0, none⟩ = some (.int .i64 0) := (hb4.cell (p := ⟨_, _, none⟩) (by first | (simp; done) | (simp; omega))).trans (by simp)
            have f00 : w4.frozen? ⟨w3.heap.size, 0, none⟩ = false := (hb4.frozen (p := ⟨_, _, none⟩) (by first | (simp; done) | (simp; omega))).trans (by simp [go_sem])
            have e01 : w4.cell? ⟨w3.heap.size, 1, none⟩ = some (.int .i64 0) := (hb4.cell (p := ⟨_, _, none⟩) (by first | (simp; done) | (simp; omega))).trans (by simp)
            have f01 : w4.frozen? ⟨w3.heap.size, 1, none⟩ = false := (hb4.frozen (p := ⟨_, _, none⟩) (by first | (simp; done) | (simp; omega))).trans (by simp [go_sem])
            have e02 : w4.cell? ⟨w3.heap.size, 2, none⟩ = some (.slice none 0 0) := (hb4.cell (p := ⟨_, _, none⟩) (by first | (simp; done) | (simp; omega))).trans (by simp)
            have f02 : w4.frozen? ⟨w3.heap.size, 2, none⟩ = false := (hb4.frozen (p := ⟨_, _, none⟩) (by first | (simp; done) | (simp; omega))).trans (by simp [go_sem])
            have lt0 : w3.heap.size < w4.heap.size := by omega
            have ne0 : w3.heap.size ≠ w4.heap.size := by omega
            have en0 : w4.heap.size ≠ w3.heap.size := by omega
            have e10 : w4.cell? ⟨w3.heap.size + 1, 0, none⟩ = some (.int .i64 0) := (hb4.cell (p := ⟨_, _, none⟩) (by first | (simp; done) | (simp; omega))).trans (by simp)
            have f10 : w4.frozen? ⟨w3.heap.size + 1, 0, none⟩ = false := (hb4.frozen (p := ⟨_, _, none⟩) (by first | (simp; done) | (simp; omega))).trans (by simp [go_sem])
            have e11 : w4.cell? ⟨w3.heap.size + 1, 1, none⟩ = some (.int .i64 0) := (hb4.cell (p := ⟨_, _, none⟩) (by first | (simp; done) | (simp; omega))).trans (by simp)
            have f11 : w4.frozen? ⟨w3.heap.size + 1, 1, none⟩ = false := (hb4.frozen (p := ⟨_, _, none⟩) (by first | (simp; done) | (simp; omega))).trans (by simp [go_sem])
            have e12 : w4.cell? ⟨w3.heap.size + 1, 2, none⟩ = some (.slice none 0 0) := (hb4.cell (p := ⟨_, _, none⟩) (by first | (simp; done) | (simp; omega))).trans (by simp)
            have f12 : w4.frozen? ⟨w3.heap.size + 1, 2, none⟩ = false := (hb4.frozen (p := ⟨_, _, none⟩) (by first | (simp; done) | (simp; omega))).trans (by simp [go_sem])
            have lt1 : w3.heap.size + 1 < w4.heap.size := by omega
            have ne1 : w3.heap.size + 1 ≠ w4.heap.size := by omega
            have en1 : w4.heap.size ≠ w3.heap.size + 1 := by omega
            have O5 : w4.ownsRow (w3.heap.size + 1 + 1) 65 3 (.slice A5 (J.paY a L).length c5) (J.paY a L).length (flat (J.paY a L)) := by simpa using o5
            have O6 : w4.ownsRow (w3.heap.size + 1 + 1) 65 3 (.slice A6 (J.pbY a L).length c6) (J.pbY a L).length (flat (J.pbY a L)) := by simpa using o6
            clear o5 o6
            refine hK.out _ _ (fun _ => HS _ hbc) (fun hH => ?_)
            clear hK K
            have hHeld := hH (by decide)
            clear hH
            try simp only [Act.put, List.setIfInBounds_toArray, List.set_cons_zero, List.set_cons_succ, List.getElem_toArray, List.getElem_cons_zero, List.getElem_cons_succ]
            refine wpTop.take 5 (v := ?_) rfl (by kernel_rfl) (by kernel_rfl) (by kernel_rfl) (by kernel_rfl) (fun _ _ _ h => h) (Or.inl ⟨by rfl, ?_⟩) (by assumption) ?_
            rotate_left
            · intro w hSw; (try dsimp only at hSw); go_simp; try (with_reducible rfl)
            try simp only [Act.put, List.setIfInBounds_toArray, List.set_cons_zero, List.set_cons_succ, List.getElem_toArray, List.getElem_cons_zero, List.getElem_cons_succ]
            refine wpTop.take 6 (v := ?_) rfl (by kernel_rfl) (by kernel_rfl) (by kernel_rfl) (by kernel_rfl) (fun _ _ _ h => h) (Or.inl ⟨by rfl, ?_⟩) (by assumption) ?_
            rotate_left
            · intro w hSw; (try dsimp only at hSw); go_simp; try (with_reducible rfl)
            try simp only [Act.put, List.setIfInBounds_toArray, List.set_cons_zero, List.set_cons_succ, List.getElem_toArray, List.getElem_cons_zero, List.getElem_cons_succ]
            refine wpTop.take 7 (v := ?_) rfl (by kernel_rfl) (by kernel_rfl) (by kernel_rfl) (by kernel_rfl) (fun _ _ _ h => h) (Or.inl ⟨by rfl, ?_⟩) (by assumption) ?_
            rotate_left
            · intro w hSw; (try dsimp only at hSw); go_simp; try (with_reducible rfl)
            try simp only [Act.put, List.setIfInBounds_toArray, List.set_cons_zero, List.set_cons_succ, List.getElem_toArray, List.getElem_cons_zero, List.getElem_cons_succ]
            refine wpTop.one 10 rfl (by kernel_rfl) (fun K hK => ?_)
            go_simp
            refine hK.out _ _ (fun _ => HS _ (by repeat (first | (with_reducible exact hbc) | (with_reducible exact Below.refl _ _) | (with_reducible refine Below.drew ?_) | (with_reducible refine Below.alloc ?_ (by first | omega | (simp; omega) | (simp; done)) _) | (with_reducible refine Below.setCell ?_ (by first | omega | (simp; omega) | (simp; done)) _)))) (fun hH => ?_)
            clear hK K
            have hHeld := hH (by decide)
            clear hH
            try simp only [Act.put, List.setIfInBounds_toArray, List.set_cons_zero, List.set_cons_succ, List.getElem_toArray, List.getElem_cons_zero, List.getElem_cons_succ]
            refine wpTop.one 11 rfl (by kernel_rfl) (fun K hK => ?_)
            go_simp
            refine hK.out _ _ (fun _ => HS _ (by repeat (first | (with_reducible exact hbc) | (with_reducible exact Below.refl _ _) | (with_reducible refine Below.drew ?_) | (with_reducible refine Below.alloc ?_ (by first | omega | (simp; omega) | (simp; done)) _) | (with_reducible refine Below.setCell ?_ (by first | omega | (simp; omega) | (simp; done)) _)))) (fun hH => ?_)
            clear hK K
            have hHeld := hH (by decide)
            clear hH
            try simp only [Act.put, List.setIfInBounds_toArray, List.set_cons_zero, List.set_cons_succ, List.getElem_toArray, List.getElem_cons_zero, List.getElem_cons_succ]
            refine wpTop.all (by kernel_rfl) ?_ _
            go_wp2_with fail
            go_meet
            exact ⟨_, _, A5, c5, A6, c6, rfl, rfl, R2.early hbc (by omega) (by omega) (by omega) (by omega) (by omega) (by omega) e00 e01 e02 e10 e11 e12 O5 O6 hd⟩
        · refine wpTop.go 9 rfl (fun K hK => ?_)
          go_simp
          refine hK.out _ _ (fun _ => HS _ (by repeat (first | (with_reducible exact hbc) | (with_reducible exact Below.refl _ _) | (with_reducible refine Below.drew ?_) | (with_reducible refine Below.alloc ?_ (by first | omega | (simp; omega) | (simp; done)) _) | (with_reducible refine Below.setCell ?_ (by first | omega | (simp; omega) | (simp; done)) _)))) (fun hH => ?_)
          clear hK K
          have hHeld := hH (by decide)
          clear hH
          try simp only [Act.put, List.setIfInBounds_toArray, List.set_cons_zero, List.set_cons_succ, List.getElem_toArray, List.getElem_cons_zero, List.getElem_cons_succ]
          refine wpTop.two 4 8 (by kernel_rfl) ?_ ?_
          · refine wpTop.go 4 rfl (fun K hK => ?_)
            go_simp
            (with_reducible refine (HC.out _ (((Below.refl _ _).alloc (Nat.le_refl _) _).drew)).mono ?_)
            rintro e w4 ⟨A5, c5, A6, c6, rfl, o5, o6, hd, hb4⟩
            have hbc : Below w3.heap.size w3 w4 := Below.trans (((Below.refl _ _).alloc (Nat.le_refl _) _).drew) (hb4.mono (by first | (simp; done) | (simp; omega)))
            have hsz4 := hb4.size
            simp at hsz4
            have hszb := hbc.size
            have e00 : w4.cell? ⟨w3.heap.size, 0, none⟩ = some (.int .i64 0) := (hb4.cell (p := ⟨_, _, none⟩) (by first | (simp; done) | (simp; omega))).trans (by simp)
            have f00 : w4.frozen? ⟨w3.heap.size, 0, none⟩ = false := (hb4.frozen (p := ⟨_, _, none⟩) (by first | (simp; done) | (simp; omega))).trans (by simp [go_sem])
            have e01 : w4.cell? ⟨w3.heap.size, 1, none⟩ = some (.int .i64 0) := (hb4.cell (p := ⟨_, _, none⟩) (by first | (simp; done) | (simp; omega))).trans (by simp)
            have f01 : w4.frozen? ⟨w3.heap.size, 1, none⟩ = false := (hb4.frozen (p := ⟨_, _, none⟩) (by first | (simp; done) | (simp; omega))).trans (by simp [go_sem])
            have e02 : w4.cell? ⟨w3.heap.size, 2, none⟩ = some (.slice none 0 0) := (hb4.cell (p := ⟨_, _, none⟩) (by first | (simp; done) | (simp; omega))).trans (by simp)
            have f02 : w4.frozen? ⟨w3.heap.size, 2, none⟩ = false := (hb4.frozen (p := ⟨_, _, none⟩) (by first | (simp; done) | (simp; omega))).trans (by simp [go_sem])
            have lt0 : w3.heap.size < w4.heap.size := by omega
            have ne0 : w3.heap.size ≠ w4.heap.size := by omega
            have en0 : w4.heap.size ≠ w3.heap.size := by omega
            have O5 : w4.ownsRow (w3.heap.size + 1) 65 3 (.slice A5 (J.paY a L).length c5) (J.paY a L).length (flat (J.paY a L)) := by simpa using o5
            have O6 : w4.ownsRow (w3.heap.size + 1) 65 3 (.slice A6 (J.pbY a L).length c6) (J.pbY a L).length (flat (J.pbY a L)) := by simpa using o6
            clear o5 o6
            refine hK.out _ _ (fun _ => HS _ hbc) (fun hH => ?_)
            clear hK K
            have hHeld := hH (by decide)
            clear hH
            try simp only [Act.put, List.setIfInBounds_toArray, List.set_cons_zero, List.set_cons_succ, List.getElem_toArray, List.getElem_cons_zero, List.getElem_cons_succ]
            refine wpTop.take 5 (v := ?_) rfl (by kernel_rfl) (by kernel_rfl) (by kernel_rfl) (by kernel_rfl) (fun _ _ _ h => h) (Or.inl ⟨by rfl, ?_⟩) (by assumption) ?_
            rotate_left
            · intro w hSw; (try dsimp only at hSw); go_simp; try (with_reducible rfl)
            try simp only [Act.put, List.setIfInBounds_toArray, List.set_cons_zero, List.set_cons_succ, List.getElem_toArray, List.getElem_cons_zero, List.getElem_cons_succ]
            refine wpTop.take 6 (v := ?_) rfl (by kernel_rfl) (by kernel_rfl) (by kernel_rfl) (by kernel_rfl) (fun _ _ _ h => h) (Or.inl ⟨by rfl, ?_⟩) (by assumption) ?_
            rotate_left
            · intro w hSw; (try dsimp only at hSw); go_simp; try (with_reducible rfl)
            try simp only [Act.put, List.setIfInBounds_toArray, List.set_cons_zero, List.set_cons_succ, List.getElem_toArray, List.getElem_cons_zero, List.getElem_cons_succ]
            refine wpTop.take 7 (v := ?_) rfl (by kernel_rfl) (by kernel_rfl) (by kernel_rfl) (by kernel_rfl) (fun _ _ _ h => h) (Or.inl ⟨by rfl, ?_⟩) (by assumption) ?_
            rotate_left
            · intro w hSw; (try dsimp only at hSw); go_simp; try (with_reducible rfl)
            try simp only [Act.put, List.setIfInBounds_toArray, List.set_cons_zero, List.set_cons_succ, List.getElem_toArray, List.getElem_cons_zero, List.getElem_cons_succ]
            refine wpTop.one 8 rfl (by kernel_rfl) (fun K hK => ?_)
            go_simp
            refine hK.out _ _ (fun _ => HS _ (by repeat (first | (with_reducible exact hbc) | (with_reducible exact Below.refl _ _) | (with_reducible refine Below.drew ?_) | (with_reducible refine Below.alloc ?_ (by first | omega | (simp; omega) | (simp; done)) _) | (with_reducible refine Below.setCell ?_ (by first | omega | (simp; omega) | (simp; done)) _)))) (fun hH => ?_)
            clear hK K
            have hHeld := hH (by decide)
            clear hH
            try simp only [Act.put, List.setIfInBounds_toArray, List.set_cons_zero, List.set_cons_succ, List.getElem_toArray, List.getElem_cons_zero, List.getElem_cons_succ]
            refine wpTop.one 10 rfl (by kernel_rfl) (fun K hK => ?_)
            go_simp
            refine hK.out _ _ (fun _ => HS _ (by repeat (first | (with_reducible exact hbc) | (with_reducible exact Below.refl _ _) | (with_reducible refine Below.drew ?_) | (with_reducible refine Below.alloc ?_ (by first | omega | (simp; omega) | (simp; done)) _) | (with_reducible refine Below.setCell ?_ (by first | omega | (simp; omega) | (simp; done)) _)))) (fun hH => ?_)
            clear hK K
            have hHeld := hH (by decide)
            clear hH
            try simp only [Act.put, List.setIfInBounds_toArray, List.set_cons_zero, List.set_cons_succ, List.getElem_toArray, List.getElem_cons_zero, List.getElem_cons_succ]
            refine wpTop.one 11 rfl (by kernel_rfl) (fun K hK => ?_)
            go_simp
            refine hK.out _ _ (fun _ => HS _ (by repeat (first | (with_reducible exact hbc) | (with_reducible exact Below.refl _ _) | (with_reducible refine Below.drew ?_) | (with_reducible refine Below.alloc ?_ (by first | omega | (simp; omega) | (simp; done)) _) | (with_reducible refine Below.setCell ?_ (by first | omega | (simp; omega) | (simp; done)) _)))) (fun hH => ?_)
            clear hK K
            have hHeld := hH (by decide)
            clear hH
            try simp only [Act.put, List.setIfInBounds_toArray, List.set_cons_zero, List.set_cons_succ, List.getElem_toArray, List.getElem_cons_zero, List.getElem_cons_succ]
            refine wpTop.all (by kernel_rfl) ?_ _
            go_wp2_with fail
            go_meet
            exact ⟨_, _, A5, c5, A6, c6, rfl, rfl, (R2.mid hbc (Nat.le_refl _) lt0 e00 e01 e02 O6 O5 (fun k h1 h2 => hd k h2 h1)).swap⟩
          · refine wpTop.go 8 rfl (fun K hK => ?_)
            go_simp
            refine hK.out _ _ (fun _ => HS _ (by repeat (first | (with_reducible exact hbc) | (with_reducible exact Below.refl _ _) | (with_reducible refine Below.drew ?_) | (with_reducible refine Below.alloc ?_ (by first | omega | (simp; omega) | (simp; done)) _) | (with_reducible refine Below.setCell ?_ (by first | omega | (simp; omega) | (simp; done)) _)))) (fun hH => ?_)
            clear hK K
            have hHeld := hH (by decide)
            clear hH
            try simp only [Act.put, List.setIfInBounds_toArray, List.set_cons_zero, List.set_cons_succ, List.getElem_toArray, List.getElem_cons_zero, List.getElem_cons_succ]
            refine wpTop.one 4 rfl (by kernel_rfl) (fun K hK => ?_)
            go_simp
            (with_reducible refine (HC.out _ ((((Below.refl _ _).alloc (Nat.le_refl _) _).alloc (by simp) _).drew)).mono ?_)
            rintro e w4 ⟨A5, c5, A6, c6, rfl, o5, o6, hd, hb4⟩
            have hbc : Below w3.heap.size w3 w4 := Below.trans ((((Below.refl _ _).alloc (Nat.le_refl _) _).alloc (by simp) _).drew) (hb4.mono (by first | (simp; done) | (simp; omega)))
            have hsz4 := hb4.size
            simp at hsz4
            have hszb := hbc.size
            have e00 : w4.cell? ⟨w3.heap.size, 0, none⟩ = some (.int .i64 0) := (hb4.cell (p := ⟨_, _, none⟩) (by first | (simp; done) | (simp; omega))).trans (by simp)
            have f00 : w4.frozen? ⟨w3.heap.size, 0, none⟩ = false := (hb4.frozen (p := ⟨_, _, none⟩) (by first | (simp; done) | (simp; omega))).trans (by simp [go_sem])
            have e01 : w4.cell? ⟨w3.heap.size, 1, none⟩ = some (.int .i64 0) := (hb4.cell (p := ⟨_, _, none⟩) (by first | (simp; done) | (simp; omega))).trans (by simp)
            have f01 : w4.frozen? ⟨w3.heap.size, 1, none⟩ = false := (hb4.frozen (p := ⟨_, _, none⟩) (by first | (simp; done) | (simp; omega))).trans (by simp [go_sem])
            have e02 : w4.cell? ⟨w3.heap.size, 2, none⟩ = some (.slice none 0 0) := (hb4.cell (p := ⟨_, _, none⟩) (by first | (simp; done) | (simp; omega))).trans (by simp)
            have f02 : w4.frozen? ⟨w3.heap.size, 2, none⟩ = false := (hb4.frozen (p := ⟨_, _, none⟩) (by first | (simp; done) | (simp; omega))).trans (by simp [go_sem])
            have lt0 : w3.heap.size < w4.heap.size := by omega
            have ne0 : w3.heap.size ≠ w4.heap.size := by omega
            have en0 : w4.heap.size ≠ w3.heap.size := by omega
            have e10 : w4.cell? ⟨w3.heap.size + 1, 0, none⟩ = some (.int .i64 0) := (hb4.cell (p := ⟨_, _, none⟩) (by first | (simp; done) | (simp; omega))).trans (by simp)
            have f10 : w4.frozen? ⟨w3.heap.size + 1, 0, none⟩ = false := (hb4.frozen (p := ⟨_, _, none⟩) (by first | (simp; done) | (simp; omega))).trans (by simp [go_sem])
            have e11 : w4.cell? ⟨w3.heap.size + 1, 1, none⟩ = some (.int .i64 0) := (hb4.cell (p := ⟨_, _, none⟩) (by first | (simp; done) | (simp; omega))).trans (by simp)
            have f11 : w4.frozen? ⟨w3.heap.size + 1, 1, none⟩ = false := (hb4.frozen (p := ⟨_, _, none⟩) (by first | (simp; done) | (simp; omega))).trans (by simp [go_sem])
            have e12 : w4.cell? ⟨w3.heap.size + 1, 2, none⟩ = some (.slice none 0 0) := (hb4.cell (p := ⟨_, _, none⟩) (by first | (simp; done) | (simp; omega))).trans (by simp)
            have f12 : w4.frozen? ⟨w3.heap.size + 1, 2, none⟩ = false := (hb4.frozen (p := ⟨_, _, none⟩) (by first | (simp; done) | (simp; omega))).trans (by simp [go_sem])
            have lt1 : w3.heap.size + 1 < w4.heap.size := by omega
            have ne1 : w3.heap.size + 1 ≠ w4.heap.size := by omega
            have en1 : w4.heap.size ≠ w3.heap.size + 1 := by omega
            have O5 : w4.ownsRow (w3.heap.size + 1 + 1) 65 3 (.slice A5 (J.paY a L).length c5) (J.paY a L).length (flat (J.paY a L)) := by simpa using o5
            have O6 : w4.ownsRow (w3.heap.size + 1 + 1) 65 3 (.slice A6 (J.pbY a L).length c6) (J.pbY a L).length (flat (J.pbY a L)) := by simpa using o6
            clear o5 o6
            refine hK.out _ _ (fun _ => HS _ hbc) (fun hH => ?_)
            clear hK K
            have hHeld := hH (by decide)
            clear hH
            try simp only [Act.put, List.setIfInBounds_toArray, List.set_cons_zero, List.set_cons_succ, List.getElem_toArray, List.getElem_cons_zero, List.getElem_cons_succ]
            refine wpTop.take 5 (v := ?_) rfl (by kernel_rfl) (by kernel_rfl) (by kernel_rfl) (by kernel_rfl) (fun _ _ _ h => h) (Or.inl ⟨by rfl, ?_⟩) (by assumption) ?_
            rotate_left
            · intro w hSw; (try dsimp only at hSw); go_simp; try (with_reducible rfl)
            try simp only [Act.put, List.setIfInBounds_toArray, List.set_cons_zero, List.set_cons_succ, List.getElem_toArray, List.getElem_cons_zero, List.getElem_cons_succ]
            refine wpTop.take 6 (v := ?_) rfl (by kernel_rfl) (by kernel_rfl) (by kernel_rfl) (by kernel_rfl) (fun _ _ _ h => h) (Or.inl ⟨by rfl, ?_⟩) (by assumption) ?_
            rotate_left
            · intro w hSw; (try dsimp only at hSw); go_simp; try (with_reducible rfl)
            try simp only [Act.put, List.setIfInBounds_toArray, List.set_cons_zero, List.set_cons_succ, List.getElem_toArray, List.getElem_cons_zero, List.getElem_cons_succ]
            refine wpTop.take 7 (v := ?_) rfl (by kernel_rfl) (by kernel_rfl) (by kernel_rfl) (by kernel_rfl) (fun _ _ _ h => h) (Or.inl ⟨by rfl, ?_⟩) (by assumption) ?_
            rotate_left
            · intro w hSw; (try dsimp only at hSw); go_simp; try (with_reducible rfl)
            try simp only [Act.put, List.setIfInBounds_toArray, List.set_cons_zero, List.set_cons_succ, List.getElem_toArray, List.getElem_cons_zero, List.getElem_cons_succ]
            refine wpTop.one 10 rfl (by kernel_rfl) (fun K hK => ?_)
            go_simp
            refine hK.out _ _ (fun _ => HS _ (by repeat (first | (with_reducible exact hbc) | (with_reducible exact Below.refl _ _) | (with_reducible refine Below.drew ?_) | (with_reducible refine Below.alloc ?_ (by first | omega | (simp; omega) | (simp; done)) _) | (with_reducible refine Below.setCell ?_ (by first | omega | (simp; omega) | (simp; done)) _)))) (fun hH => ?_)
            clear hK K
            have hHeld := hH (by decide)
            clear hH
            try simp only [Act.put, List.setIfInBounds_toArray, List.set_cons_zero, List.set_cons_succ, List.getElem_toArray, List.getElem_cons_zero, List.getElem_cons_succ]
            refine wpTop.one 11 rfl (by kernel_rfl) (fun K hK => ?_)
            go_simp
            refine hK.out _ _ (fun _ => HS _ (by repeat (first | (with_reducible exact hbc) | (with_reducible exact Below.refl _ _) | (with_reducible refine Below.drew ?_) | (with_reducible refine Below.alloc ?_ (by first | omega | (simp; omega) | (simp; done)) _) | (with_reducible refine Below.setCell ?_ (by first | omega | (simp; omega) | (simp; done)) _)))) (fun hH => ?_)
            clear hK K
            have hHeld := hH (by decide)
            clear hH
            try simp only [Act.put, List.setIfInBounds_toArray, List.set_cons_zero, List.set_cons_succ, List.getElem_toArray, List.getElem_cons_zero, List.getElem_cons_succ]
            refine wpTop.all (by kernel_rfl) ?_ _
            go_wp2_with fail
            go_meet
            exact ⟨_, _, A5, c5, A6, c6, rfl, rfl, R2.early hbc (by omega) (by omega) (by omega) (by omega) (by omega) (by omega) e10 e11 e12 e00 e01 e02 O5 O6 hd⟩
      case rest =>
        obtain ⟨g, h, A1, c1, A2, c2, rfl, rfl, JJ⟩ := hcut
        have K5 := K4.next JJ.bel
        clear r0 r1 r2 s0 s1 s2 t0 t1 t2 v0 v1 v2 b0 b1 b2
        have hg0 := JJ.g0
        have hh0 := JJ.h0
        have ⟨r0, r1, r2⟩ := K5.r 1 (.inl rfl)
        have ⟨s0, s1, s2⟩ := K5.r 2 (.inr rfl)
        have t0 := K5.f 1 0 (.inl rfl)
        have t1 := K5.f 1 1 (.inl rfl)
        have t2 := K5.f 1 2 (.inl rfl)
        have v0 := K5.f 2 0 (.inr rfl)
        have v1 := K5.f 2 1 (.inr rfl)
        have v2 := K5.f 2 2 (.inr rfl)
        obtain ⟨la, p0, p1, p2⟩ := id JJ.a
        obtain ⟨lb, q0, q1, q2⟩ := id JJ.b
        obtain ⟨M1, hM1⟩ : ∃ M, (J.paY a L) = M := ⟨_, rfl⟩
        obtain ⟨M2, hM2⟩ : ∃ M, (J.pbY a L) = M := ⟨_, rfl⟩
        rw [hM1] at JJ p2
        rw [hM2] at JJ q2
        have HM1 := Lib.hid hM1
        have HM2 := Lib.hid hM2
        clear hM1 hM2
        have HJ := Lib.hid JJ
        clear JJ
        go_wp2_with fail
        have n8 : w.heap.size + 1 ≠ g := by omega
        have n9 : w.heap.size + 1 ≠ h := by omega
        have n8' : w.heap.size + 1 + 1 ≠ g := by omega
        have n9' : w.heap.size + 1 + 1 ≠ h := by omega
        have m8 := n8.symm
        have m9 := n9.symm
        have m8' := n8'.symm
        have m9' := n9'.symm
        refine wp_region_top 5 (fun w' => w'.cell? ⟨g, 0, none⟩ = some (.int .i64 (W)) ∧ w'.cell? ⟨g, 1, none⟩ = some (.int .i64 (a)) ∧ w'.cell? ⟨g, 2, none⟩ = some (.slice A1 (M1).length c1) ∧ w'.cell? ⟨h, 0, none⟩ = some (.int .i64 (W)) ∧ w'.cell? ⟨h, 1, none⟩ = some (.int .i64 (H - a)) ∧ w'.cell? ⟨h, 2, none⟩ = some (.slice A2 (M2).length c2)) (by kernel_rfl) ⟨p0, p1, p2, q0, q1, q2⟩ (fun hHeld => ?_)
        refine wpTop.take 0 (v := ?_) rfl (by kernel_rfl) (by kernel_rfl) (by kernel_rfl) (by kernel_rfl) (fun _ _ _ h => h) (Or.inl ⟨by rfl, ?_⟩) (by assumption) ?_
        rotate_left
        · intro w hSw; (try dsimp only at hSw); go_simp; try (with_reducible rfl)
        try simp only [Act.put, List.setIfInBounds_toArray, List.set_cons_zero, List.set_cons_succ, List.getElem_toArray, List.getElem_cons_zero, List.getElem_cons_succ]
        refine wpTop.take 1 (v := ?_) rfl (by kernel_rfl) (by kernel_rfl) (by kernel_rfl) (by kernel_rfl) (fun _ _ _ h => h) (Or.inl ⟨by rfl, ?_⟩) (by assumption) ?_
        rotate_left
        · intro w hSw; (try dsimp only at hSw); go_simp; try (with_reducible rfl)
        try simp only [Act.put, List.setIfInBounds_toArray, List.set_cons_zero, List.set_cons_succ, List.getElem_toArray, List.getElem_cons_zero, List.getElem_cons_succ]
        refine wpTop.one 2 rfl (by kernel_rfl) (fun K hK => ?_)
        go_simp
        refine hK.out _ _ (fun _ => (by refine ⟨?_, ?_, ?_, ?_, ?_, ?_⟩ <;> simp [go_sem, p0, p1, p2, q0, q1, q2, n8, n9, m8, m9, n8', n9', m8', m9'])) (fun hH => ?_)
        clear hK K
        have hHeld := hH (by decide)
        clear hH
        try simp only [Act.put, List.setIfInBounds_toArray, List.set_cons_zero, List.set_cons_succ, List.getElem_toArray, List.getElem_cons_zero, List.getElem_cons_succ]
        refine wpTop.one 3 rfl (by kernel_rfl) (fun K hK => ?_)
        go_simp
        refine hK.out _ _ (fun _ => (by refine ⟨?_, ?_, ?_, ?_, ?_, ?_⟩ <;> simp [go_sem, p0, p1, p2, q0, q1, q2, n8, n9, m8, m9, n8', n9', m8', m9'])) (fun hH => ?_)
        clear hK K
        have hHeld := hH (by decide)
        clear hH
        try simp only [Act.put, List.setIfInBounds_toArray, List.set_cons_zero, List.set_cons_succ, List.getElem_toArray, List.getElem_cons_zero, List.getElem_cons_succ]
        refine wpTop.one 4 rfl (by kernel_rfl) (fun K hK => ?_)
        go_simp
        refine hK.out _ _ (fun _ => (by refine ⟨?_, ?_, ?_, ?_, ?_, ?_⟩ <;> simp [go_sem, p0, p1, p2, q0, q1, q2, n8, n9, m8, m9, n8', n9', m8', m9'])) (fun hH => ?_)
        clear hK K
        have hHeld := hH (by decide)
        clear hH
        try simp only [Act.put, List.setIfInBounds_toArray, List.set_cons_zero, List.set_cons_succ, List.getElem_toArray, List.getElem_cons_zero, List.getElem_cons_succ]
        refine wpTop.all (by kernel_rfl) ?_ _
        go_wp2_with fail
        have hB := bel3 (g := w.heap.size + 1 + 1) (x := .int .i64 (W)) (y := .int .i64 (H - a)) (z := .slice A2 M2.length c2) (bel3 (g := w.heap.size + 1) (x := .int .i64 (W)) (y := .int .i64 (a)) (z := .slice A1 M1.length c1) K5.below (by omega)) (by omega)
        have P1 := own_base (base' := w.heap.size) (own3 (g := w.heap.size + 1 + 1) (x := .int .i64 (W)) (y := .int .i64 (H - a)) (z := .slice A2 M2.length c2) (own3 (g := w.heap.size + 1) (x := .int .i64 (W)) (y := .int .i64 (a)) (z := .slice A1 M1.length c1) HJ.out.o1 (by omega)) (by omega)) (by omega)
        have P2 := own_base (base' := w.heap.size) (own3 (g := w.heap.size + 1 + 1) (x := .int .i64 (W)) (y := .int .i64 (H - a)) (z := .slice A2 M2.length c2) (own3 (g := w.heap.size + 1) (x := .int .i64 (W)) (y := .int .i64 (a)) (z := .slice A1 M1.length c1) HJ.out.o2 (by omega)) (by omega)) (by omega)
        have s0' : wc.cell? ⟨w.heap.size + 1 + 1, 0, none⟩ = some (.int .i64 0) := s0
        have s1' : wc.cell? ⟨w.heap.size + 1 + 1, 1, none⟩ = some (.int .i64 0) := s1
        have s2' : wc.cell? ⟨w.heap.size + 1 + 1, 2, none⟩ = some (.slice none 0 0) := s2
        refine bodyPost_ret (v := .tuple #[.agg #[.int .i64 (W), .int .i64 (a), .slice A1 M1.length c1], .agg #[.int .i64 (W), .int .i64 (H - a), .slice A2 M2.length c2], .bool true]) (by simp [results, Try.results32, go_sem, r0, r1, r2, s0', s1', s2']) rfl ?_
        rw [HLN.out]
        show RetPt w ⟨W, a, J.paY a L, W, H - a, J.pbY a L, true⟩ _ _
        rw [HM1.out, HM2.out]
        first | exact ⟨A1, c1, A2, c2, rfl, P1.drew, P2.drew, HJ.out.dis, hB.drew⟩ | exact ⟨A1, c1, A2, c2, rfl, P1, P2, HJ.out.dis, hB⟩
end Go.Proofs.Ytilneimiedfjnaa
namespace Go.Proofs.Ytilneimiedfjnaa
open Go.RowKit

theorem dnPt_len (W H : Int) (L : List Sq) (hn : L.length ≤ 1048576) : (dnPt W H L).l1.length ≤ 1048576 ∧ (dnPt W H L).l2.length ≤ 1048576 := by
  by_cases h : Good W H L
  · rw [dnPt_yes h]
    cases J.lnD L W.toNat with
    | nil => exact ⟨by simp [dnF, noPt], by simp [dnF, noPt]⟩
    | cons a r =>
      refine ⟨Nat.le_trans (List.length_filter_le _ _) hn, ?_⟩
      show (J.pbX a L).length ≤ _
      unfold J.pbX
      rw [List.length_map]
      exact Nat.le_trans (List.length_filter_le _ _) hn
  · rw [dnPt_no h]
    exact ⟨by simp [noPt], by simp [noPt]⟩
theorem acPt_len (W H : Int) (L : List Sq) (hn : L.length ≤ 1048576) : (acPt W H L).l1.length ≤ 1048576 ∧ (acPt W H L).l2.length ≤ 1048576 := by
  by_cases h : Good W H L
  · rw [acPt_yes h]
    cases J.lnD (J.swL L) H.toNat with
    | nil => exact ⟨by simp [acF, noPt], by simp [acF, noPt]⟩
    | cons a r =>
      refine ⟨Nat.le_trans (List.length_filter_le _ _) hn, ?_⟩
      show (J.pbY a L).length ≤ _
      unfold J.pbY
      rw [List.length_map]
      exact Nat.le_trans (List.length_filter_le _ _) hn
  · rw [acPt_no h]
    exact ⟨by simp [noPt], by simp [noPt]⟩
end Go.Proofs.Ytilneimiedfjnaa
