/- Squares put at an edge: the program. -/
import Derived.Test.YtnnhgblgbbfmpaaUndI
import Derived.Test.YtnnhgblgbbfmpaaOne
set_option linter.all false
namespace Go.Proofs.Ytnnhgblgbbfmpaa
open Go.RowKit

noncomputable def putT (W H : Int) (L : List Sq) (e : Int) : Int × Int × List Sq × Bool :=
  if dc (Good W H L ∧ 0 ≤ e ∧ e ≤ 3) then Mk (J.putW W H e) (J.putH W H e) (J.putL W H L e) else noT
theorem putT_yes {W H e : Int} {L : List Sq} (h : Good W H L) (k : 0 ≤ e ∧ e ≤ 3) : putT W H L e = Mk (J.putW W H e) (J.putH W H e) (J.putL W H L e) := by simp [putT, dc_true (And.intro h k)]
theorem putT_no {W H e : Int} {L : List Sq} (h : ¬ (Good W H L ∧ 0 ≤ e ∧ e ≤ 3)) : putT W H L e = noT := by simp [putT, dc_false h]
theorem put_no {W H e : Int} {L : List Sq} (h : ¬ (0 ≤ e ∧ e ≤ 3)) : putT W H L e = noT := putT_no fun k => h k.2
theorem putT_len (W H : Int) (L : List Sq) (e : Int) : (putT W H L e).2.2.1.length ≤ 30 := by
  unfold putT; split
  · exact Mk_len _ _ _
  · simp [noT]
theorem oneL_wf (d : Int) : ∀ s ∈ oneL d, wfS s := by
  intro s hs
  by_cases h : 1 ≤ d ∧ d ≤ 500
  · rw [oneL_yes h] at hs; simp at hs; subst hs; exact wf_small (m := 500) (by decide) (by simp; omega)
  · rw [oneL_no h] at hs; simp at hs
theorem gd_self {a : Int} (h : 1 ≤ a) : a / gd a a = 1 := by
  unfold gd; rw [Nat.gcd_self, Int.toNat_of_nonneg (by omega)]; exact Int.ediv_self (by omega)
theorem put_0 {W H : Int} {L : List Sq} : unT (oneW W) (oneW W) (oneL W) W H L = putT W H L 0 := by
  by_cases hG : Good W H L
  · have h := hG.1
    rw [oneW_yes h, oneL_yes h, unT_yes (J.good_one h.1 h.2) hG, putT_yes hG (by decide), gd_self h.1]
    simp only [J.putW, J.putH, true_or, if_true, Int.mul_one]
    rw [Int.add_comm W H]
    exact Mk_perm (J.put0 W H L)
  · rw [putT_no (fun k => hG k.1), unT_no (fun k => hG k.2)]
theorem put_1 {W H : Int} {L : List Sq} : beT W H L (oneW H) (oneW H) (oneL H) = putT W H L 1 := by
  by_cases hG : Good W H L
  · have h := hG.2.1
    rw [oneW_yes h, oneL_yes h, beT_yes hG (J.good_one h.1 h.2), putT_yes hG (by decide), gd_self h.1, J.put1]
    simp [J.putW, J.putH]
  · rw [putT_no (fun k => hG k.1), beT_no (fun k => hG k.1)]
theorem put_2 {W H : Int} {L : List Sq} : unT W H L (oneW W) (oneW W) (oneL W) = putT W H L 2 := by
  by_cases hG : Good W H L
  · have h := hG.1
    rw [oneW_yes h, oneL_yes h, unT_yes hG (J.good_one h.1 h.2), putT_yes hG (by decide), gd_self h.1, J.put2]
    simp [J.putW, J.putH]
  · rw [putT_no (fun k => hG k.1), unT_no (fun k => hG k.1)]
theorem put_3 {W H : Int} {L : List Sq} : beT (oneW H) (oneW H) (oneL H) W H L = putT W H L 3 := by
  by_cases hG : Good W H L
  · have h := hG.2.1
    rw [oneW_yes h, oneL_yes h, beT_yes (J.good_one h.1 h.2) hG, putT_yes hG (by decide), gd_self h.1, Mk_perm (J.put3 W H L)]
    simp only [Int.mul_one]
    rw [Int.add_comm H W]
    simp [J.putW, J.putH]
  · rw [putT_no (fun k => hG k.1), beT_no (fun k => hG k.2)]

set_option maxRecDepth 100000 in
set_option maxHeartbeats 8000000 in
theorem implPut_any (W H : Int) (A : Option Addr) (n c : Nat) (L : List Sq) (e0 : Int) (w : World) (hl : L.length = n) (hc : n ≤ c) (hL : SqsAt w w.heap.size A L) (hwf : ∀ s ∈ L, wfS s) :
    Calls Try.prog 52 #[.agg #[.int .i64 W, .int .i64 H, .slice A n c], .int .i64 e0] w (RetT w (putT W H L e0)) := by
  subst hl
  by_cases h0 : e0 = 0
  · subst h0
    have ba := (Bx.start w W H A L.length c 28).next ((Below.refl _ _).alloc (Nat.le_refl _) (.cells #[.int .i64 0, .int .i64 0, .slice none 0 0] 28))
    have br : Bx (w.heap.size + 1) ((w.alloc (.cells #[.int .i64 W, .int .i64 H, .slice A L.length c] 28)).alloc (.cells #[.int .i64 0, .int .i64 0, .slice none 0 0] 28)) 0 0 none 0 0 := by simpa using Bx.start (w.alloc (.cells #[.int .i64 W, .int .i64 H, .slice A L.length c] 28)) 0 0 none 0 0 28
    have hf : ∀ o, (((w.alloc (.cells #[.int .i64 W, .int .i64 H, .slice A L.length c] 28)).alloc (.cells #[.int .i64 0, .int .i64 0, .slice none 0 0] 28))).frozen? ⟨w.heap.size + 1, o, none⟩ = false := fun o => World.frozen?_alloc_at _ _ _ _ (by simp)
    have HB : Below w.heap.size w ((w.alloc (.cells #[.int .i64 W, .int .i64 H, .slice A L.length c] 28)).alloc (.cells #[.int .i64 0, .int .i64 0, .slice none 0 0] 28)) := ((Below.refl _ _).alloc (Nat.le_refl _) _).alloc (by simp) _
    obtain ⟨W1, hW1⟩ : ∃ W1, W1 = ((w.alloc (.cells #[.int .i64 W, .int .i64 H, .slice A L.length c] 28)).alloc (.cells #[.int .i64 0, .int .i64 0, .slice none 0 0] 28)) := ⟨_, rfl⟩
    have hs_0 : w.heap.size + 2 = W1.heap.size := by rw [hW1]; simp
    rw [← hW1] at ba br hf HB
    obtain ⟨_, a0, a1, a2⟩ := id ba
    go_enter Try.func52, Try.ntmps52
    go_wp2_with fail
    rw [← hW1]
    clear hW1
    clear a0 a1 a2
    refine (implOne_any W W1).mono ?_
    rintro e w2 ⟨A6, c6, rfl, o6, hb⟩
    replace hf := fun o => (hb.frozen (p := ⟨w.heap.size + 1, o, none⟩) (by show w.heap.size + 1 < _; omega)).trans (hf o)
    have hs_1 := hb.size
    replace HB := HB.trans (hb.mono HB.size)
    replace ba := ba.next hb
    replace br := br.next hb
    clear hb
    obtain ⟨_, a0, a1, a2⟩ := id ba
    go_wp2_with fail
    clear a0 a1 a2
    obtain ⟨W3, hW⟩ : ∃ W3, W3 = w2.alloc (.cells #[.int .i64 (oneW W), .int .i64 (oneW W), .slice A6 (oneL W).length c6] 28) := ⟨_, rfl⟩
    have hb : Below w2.heap.size w2 W3 := by rw [hW]; exact (Below.refl _ _).alloc (Nat.le_refl _) _
    have b6 : Bx w2.heap.size W3 (oneW W) (oneW W) A6 (oneL W).length c6 := by rw [hW]; exact Bx.start _ _ _ _ _ _ _
    have hl_b6 := b6.lt
    rw [← hW]
    clear hW
    replace hf := fun o => (hb.frozen (p := ⟨w.heap.size + 1, o, none⟩) (by show w.heap.size + 1 < _; omega)).trans (hf o)
    have hs_2 := hb.size
    replace HB := HB.trans (hb.mono HB.size)
    replace ba := ba.next hb
    replace br := br.next hb
    replace o6 := own_keep o6 hb
    clear hb
    refine (implOne_any H W3).mono ?_
    rintro e w4 ⟨A8, c8, rfl, o8, hb⟩
    replace hf := fun o => (hb.frozen (p := ⟨w.heap.size + 1, o, none⟩) (by show w.heap.size + 1 < _; omega)).trans (hf o)
    have hs_3 := hb.size
    replace HB := HB.trans (hb.mono HB.size)
    replace ba := ba.next hb
    replace br := br.next hb
    replace b6 := b6.next hb
    replace o6 := own_keep o6 hb
    clear hb
    obtain ⟨_, a0, a1, a2⟩ := id ba
    obtain ⟨_, p0, p1, p2⟩ := id b6
    go_wp2_with fail
    clear a0 a1 a2 p0 p1 p2
    obtain ⟨W5, hW⟩ : ∃ W5, W5 = w4.alloc (.cells #[.int .i64 (oneW H), .int .i64 (oneW H), .slice A8 (oneL H).length c8] 28) := ⟨_, rfl⟩
    have hb : Below w4.heap.size w4 W5 := by rw [hW]; exact (Below.refl _ _).alloc (Nat.le_refl _) _
    have b8 : Bx w4.heap.size W5 (oneW H) (oneW H) A8 (oneL H).length c8 := by rw [hW]; exact Bx.start _ _ _ _ _ _ _
    have hl_b8 := b8.lt
    rw [← hW]
    clear hW
    replace hf := fun o => (hb.frozen (p := ⟨w.heap.size + 1, o, none⟩) (by show w.heap.size + 1 < _; omega)).trans (hf o)
    have hs_4 := hb.size
    replace HB := HB.trans (hb.mono HB.size)
    replace ba := ba.next hb
    replace br := br.next hb
    replace b6 := b6.next hb
    replace o6 := own_keep o6 hb
    replace o8 := own_keep o8 hb
    clear hb
    refine (implUnder_any (oneW W) (oneW W) A6 (oneL W).length c6 (oneL W) W H A L.length c L W5 rfl rfl (own_cap o6) hc (sqs_of_own o6) ((hL.below HB).mono HB.size) (oneL_wf W) hwf).mono ?_
    rw [put_0]
    rintro e w9 ⟨A9, c9, rfl, o9, hb⟩
    replace o9 := own_base (base' := w.heap.size + 2) o9 (by omega)
    replace hf := fun o => (hb.frozen (p := ⟨w.heap.size + 1, o, none⟩) (by show w.heap.size + 1 < _; omega)).trans (hf o)
    have hs_5 := hb.size
    replace HB := HB.trans (hb.mono HB.size)
    replace ba := ba.next hb
    replace br := br.next hb
    replace b6 := b6.next hb
    replace b8 := b8.next hb
    replace o6 := own_keep o6 hb
    replace o8 := own_keep o8 hb
    clear hb
    obtain ⟨_, r0, r1, r2⟩ := id br
    have t0 := hf 0
    have t1 := hf 1
    have t2 := hf 2
    obtain ⟨Z, hZ⟩ : ∃ Z, putT W H L 0 = Z := ⟨_, rfl⟩
    rw [hZ] at o9 ⊢
    have HZ := Lib.hid hZ
    clear hZ
    go_wp2_with fail
    have e1 := ((HB.setCell (p := ⟨w.heap.size + 1, 0, none⟩) (by simp) (.int .i64 Z.1)).setCell (p := ⟨w.heap.size + 1, 1, none⟩) (by simp) (.int .i64 Z.2.1)).setCell (p := ⟨w.heap.size + 1, 2, none⟩) (by simp) (.slice A9 Z.2.2.1.length c9)
    have e2 := own_base (base' := w.heap.size) (ownsRow_setCell_below (ownsRow_setCell_below (ownsRow_setCell_below o9 (a := ⟨w.heap.size + 1, 0, none⟩) (by first | omega | (simp; done) | (simp; omega)) (.int .i64 Z.1)) (a := ⟨w.heap.size + 1, 1, none⟩) (by first | omega | (simp; done) | (simp; omega)) (.int .i64 Z.2.1)) (a := ⟨w.heap.size + 1, 2, none⟩) (by first | omega | (simp; done) | (simp; omega)) (.slice A9 Z.2.2.1.length c9)) (by omega)
    rw [HZ.out]
    refine bodyPost_ret (v := .tuple #[.agg #[.int .i64 Z.1, .int .i64 Z.2.1, .slice A9 Z.2.2.1.length c9], .bool Z.2.2.2]) (by simp [results, Try.results52, go_sem, r0, r1, r2]) rfl ?_
    exact ⟨A9, c9, rfl, e2, e1⟩
  · by_cases h1 : e0 = 1
    · subst h1
      have ba := (Bx.start w W H A L.length c 28).next ((Below.refl _ _).alloc (Nat.le_refl _) (.cells #[.int .i64 0, .int .i64 0, .slice none 0 0] 28))
      have br : Bx (w.heap.size + 1) ((w.alloc (.cells #[.int .i64 W, .int .i64 H, .slice A L.length c] 28)).alloc (.cells #[.int .i64 0, .int .i64 0, .slice none 0 0] 28)) 0 0 none 0 0 := by simpa using Bx.start (w.alloc (.cells #[.int .i64 W, .int .i64 H, .slice A L.length c] 28)) 0 0 none 0 0 28
      have hf : ∀ o, (((w.alloc (.cells #[.int .i64 W, .int .i64 H, .slice A L.length c] 28)).alloc (.cells #[.int .i64 0, .int .i64 0, .slice none 0 0] 28))).frozen? ⟨w.heap.size + 1, o, none⟩ = false := fun o => World.frozen?_alloc_at _ _ _ _ (by simp)
      have HB : Below w.heap.size w ((w.alloc (.cells #[.int .i64 W, .int .i64 H, .slice A L.length c] 28)).alloc (.cells #[.int .i64 0, .int .i64 0, .slice none 0 0] 28)) := ((Below.refl _ _).alloc (Nat.le_refl _) _).alloc (by simp) _
      obtain ⟨W1, hW1⟩ : ∃ W1, W1 = ((w.alloc (.cells #[.int .i64 W, .int .i64 H, .slice A L.length c] 28)).alloc (.cells #[.int .i64 0, .int .i64 0, .slice none 0 0] 28)) := ⟨_, rfl⟩
      have hs_0 : w.heap.size + 2 = W1.heap.size := by rw [hW1]; simp
      rw [← hW1] at ba br hf HB
      obtain ⟨_, a0, a1, a2⟩ := id ba
      go_enter Try.func52, Try.ntmps52
      go_wp2_with fail
      rw [← hW1]
      clear hW1
      clear a0 a1 a2
      refine (implOne_any W W1).mono ?_
      rintro e w2 ⟨A6, c6, rfl, o6, hb⟩
      replace hf := fun o => (hb.frozen (p := ⟨w.heap.size + 1, o, none⟩) (by show w.heap.size + 1 < _; omega)).trans (hf o)
      have hs_1 := hb.size
      replace HB := HB.trans (hb.mono HB.size)
      replace ba := ba.next hb
      replace br := br.next hb
      clear hb
      obtain ⟨_, a0, a1, a2⟩ := id ba
      go_wp2_with fail
      clear a0 a1 a2
      obtain ⟨W3, hW⟩ : ∃ W3, W3 = w2.alloc (.cells #[.int .i64 (oneW W), .int .i64 (oneW W), .slice A6 (oneL W).length c6] 28) := ⟨_, rfl⟩
      have hb : Below w2.heap.size w2 W3 := by rw [hW]; exact (Below.refl _ _).alloc (Nat.le_refl _) _
      have b6 : Bx w2.heap.size W3 (oneW W) (oneW W) A6 (oneL W).length c6 := by rw [hW]; exact Bx.start _ _ _ _ _ _ _
      have hl_b6 := b6.lt
      rw [← hW]
      clear hW
      replace hf := fun o => (hb.frozen (p := ⟨w.heap.size + 1, o, none⟩) (by show w.heap.size + 1 < _; omega)).trans (hf o)
      have hs_2 := hb.size
      replace HB := HB.trans (hb.mono HB.size)
      replace ba := ba.next hb
      replace br := br.next hb
      replace o6 := own_keep o6 hb
      clear hb
      refine (implOne_any H W3).mono ?_
      rintro e w4 ⟨A8, c8, rfl, o8, hb⟩
      replace hf := fun o => (hb.frozen (p := ⟨w.heap.size + 1, o, none⟩) (by show w.heap.size + 1 < _; omega)).trans (hf o)
      have hs_3 := hb.size
      replace HB := HB.trans (hb.mono HB.size)
      replace ba := ba.next hb
      replace br := br.next hb
      replace b6 := b6.next hb
      replace o6 := own_keep o6 hb
      clear hb
      obtain ⟨_, a0, a1, a2⟩ := id ba
      obtain ⟨_, p0, p1, p2⟩ := id b6
      go_wp2_with fail
      clear a0 a1 a2 p0 p1 p2
      obtain ⟨W5, hW⟩ : ∃ W5, W5 = w4.alloc (.cells #[.int .i64 (oneW H), .int .i64 (oneW H), .slice A8 (oneL H).length c8] 28) := ⟨_, rfl⟩
      have hb : Below w4.heap.size w4 W5 := by rw [hW]; exact (Below.refl _ _).alloc (Nat.le_refl _) _
      have b8 : Bx w4.heap.size W5 (oneW H) (oneW H) A8 (oneL H).length c8 := by rw [hW]; exact Bx.start _ _ _ _ _ _ _
      have hl_b8 := b8.lt
      rw [← hW]
      clear hW
      replace hf := fun o => (hb.frozen (p := ⟨w.heap.size + 1, o, none⟩) (by show w.heap.size + 1 < _; omega)).trans (hf o)
      have hs_4 := hb.size
      replace HB := HB.trans (hb.mono HB.size)
      replace ba := ba.next hb
      replace br := br.next hb
      replace b6 := b6.next hb
      replace o6 := own_keep o6 hb
      replace o8 := own_keep o8 hb
      clear hb
      refine (implBeside_any W H A L.length c L (oneW H) (oneW H) A8 (oneL H).length c8 (oneL H) W5 rfl rfl hc (own_cap o8) ((hL.below HB).mono HB.size) (sqs_of_own o8) hwf (oneL_wf H)).mono ?_
      rw [put_1]
      rintro e w9 ⟨A9, c9, rfl, o9, hb⟩
      replace o9 := own_base (base' := w.heap.size + 2) o9 (by omega)
      replace hf := fun o => (hb.frozen (p := ⟨w.heap.size + 1, o, none⟩) (by show w.heap.size + 1 < _; omega)).trans (hf o)
      have hs_5 := hb.size
      replace HB := HB.trans (hb.mono HB.size)
      replace ba := ba.next hb
      replace br := br.next hb
      replace b6 := b6.next hb
      replace b8 := b8.next hb
      replace o6 := own_keep o6 hb
      replace o8 := own_keep o8 hb
      clear hb
      obtain ⟨_, r0, r1, r2⟩ := id br
      have t0 := hf 0
      have t1 := hf 1
      have t2 := hf 2
      obtain ⟨Z, hZ⟩ : ∃ Z, putT W H L 1 = Z := ⟨_, rfl⟩
      rw [hZ] at o9 ⊢
      have HZ := Lib.hid hZ
      clear hZ
      go_wp2_with fail
      have e1 := ((HB.setCell (p := ⟨w.heap.size + 1, 0, none⟩) (by simp) (.int .i64 Z.1)).setCell (p := ⟨w.heap.size + 1, 1, none⟩) (by simp) (.int .i64 Z.2.1)).setCell (p := ⟨w.heap.size + 1, 2, none⟩) (by simp) (.slice A9 Z.2.2.1.length c9)
      have e2 := own_base (base' := w.heap.size) (ownsRow_setCell_below (ownsRow_setCell_below (ownsRow_setCell_below o9 (a := ⟨w.heap.size + 1, 0, none⟩) (by first | omega | (simp; done) | (simp; omega)) (.int .i64 Z.1)) (a := ⟨w.heap.size + 1, 1, none⟩) (by first | omega | (simp; done) | (simp; omega)) (.int .i64 Z.2.1)) (a := ⟨w.heap.size + 1, 2, none⟩) (by first | omega | (simp; done) | (simp; omega)) (.slice A9 Z.2.2.1.length c9)) (by omega)
      rw [HZ.out]
      refine bodyPost_ret (v := .tuple #[.agg #[.int .i64 Z.1, .int .i64 Z.2.1, .slice A9 Z.2.2.1.length c9], .bool Z.2.2.2]) (by simp [results, Try.results52, go_sem, r0, r1, r2]) rfl ?_
      exact ⟨A9, c9, rfl, e2, e1⟩
    · by_cases h2 : e0 = 2
      · subst h2
        have ba := (Bx.start w W H A L.length c 28).next ((Below.refl _ _).alloc (Nat.le_refl _) (.cells #[.int .i64 0, .int .i64 0, .slice none 0 0] 28))
        have br : Bx (w.heap.size + 1) ((w.alloc (.cells #[.int .i64 W, .int .i64 H, .slice A L.length c] 28)).alloc (.cells #[.int .i64 0, .int .i64 0, .slice none 0 0] 28)) 0 0 none 0 0 := by simpa using Bx.start (w.alloc (.cells #[.int .i64 W, .int .i64 H, .slice A L.length c] 28)) 0 0 none 0 0 28
        have hf : ∀ o, (((w.alloc (.cells #[.int .i64 W, .int .i64 H, .slice A L.length c] 28)).alloc (.cells #[.int .i64 0, .int .i64 0, .slice none 0 0] 28))).frozen? ⟨w.heap.size + 1, o, none⟩ = false := fun o => World.frozen?_alloc_at _ _ _ _ (by simp)
        have HB : Below w.heap.size w ((w.alloc (.cells #[.int .i64 W, .int .i64 H, .slice A L.length c] 28)).alloc (.cells #[.int .i64 0, .int .i64 0, .slice none 0 0] 28)) := ((Below.refl _ _).alloc (Nat.le_refl _) _).alloc (by simp) _
        obtain ⟨W1, hW1⟩ : ∃ W1, W1 = ((w.alloc (.cells #[.int .i64 W, .int .i64 H, .slice A L.length c] 28)).alloc (.cells #[.int .i64 0, .int .i64 0, .slice none 0 0] 28)) := ⟨_, rfl⟩
        have hs_0 : w.heap.size + 2 = W1.heap.size := by rw [hW1]; simp
        rw [← hW1] at ba br hf HB
        obtain ⟨_, a0, a1, a2⟩ := id ba
        go_enter Try.func52, Try.ntmps52
        go_wp2_with fail
        rw [← hW1]
        clear hW1
        clear a0 a1 a2
        refine (implOne_any W W1).mono ?_
        rintro e w2 ⟨A6, c6, rfl, o6, hb⟩
        replace hf := fun o => (hb.frozen (p := ⟨w.heap.size + 1, o, none⟩) (by show w.heap.size + 1 < _; omega)).trans (hf o)
        have hs_1 := hb.size
        replace HB := HB.trans (hb.mono HB.size)
        replace ba := ba.next hb
        replace br := br.next hb
        clear hb
        obtain ⟨_, a0, a1, a2⟩ := id ba
        go_wp2_with fail
        clear a0 a1 a2
        obtain ⟨W3, hW⟩ : ∃ W3, W3 = w2.alloc (.cells #[.int .i64 (oneW W), .int .i64 (oneW W), .slice A6 (oneL W).length c6] 28) := ⟨_, rfl⟩
        have hb : Below w2.heap.size w2 W3 := by rw [hW]; exact (Below.refl _ _).alloc (Nat.le_refl _) _
        have b6 : Bx w2.heap.size W3 (oneW W) (oneW W) A6 (oneL W).length c6 := by rw [hW]; exact Bx.start _ _ _ _ _ _ _
        have hl_b6 := b6.lt
        rw [← hW]
        clear hW
        replace hf := fun o => (hb.frozen (p := ⟨w.heap.size + 1, o, none⟩) (by show w.heap.size + 1 < _; omega)).trans (hf o)
        have hs_2 := hb.size
        replace HB := HB.trans (hb.mono HB.size)
        replace ba := ba.next hb
        replace br := br.next hb
        replace o6 := own_keep o6 hb
        clear hb
        refine (implOne_any H W3).mono ?_
        rintro e w4 ⟨A8, c8, rfl, o8, hb⟩
        replace hf := fun o => (hb.frozen (p := ⟨w.heap.size + 1, o, none⟩) (by show w.heap.size + 1 < _; omega)).trans (hf o)
        have hs_3 := hb.size
        replace HB := HB.trans (hb.mono HB.size)
        replace ba := ba.next hb
        replace br := br.next hb
        replace b6 := b6.next hb
        replace o6 := own_keep o6 hb
        clear hb
        obtain ⟨_, a0, a1, a2⟩ := id ba
        obtain ⟨_, p0, p1, p2⟩ := id b6
        go_wp2_with fail
        clear a0 a1 a2 p0 p1 p2
        obtain ⟨W5, hW⟩ : ∃ W5, W5 = w4.alloc (.cells #[.int .i64 (oneW H), .int .i64 (oneW H), .slice A8 (oneL H).length c8] 28) := ⟨_, rfl⟩
        have hb : Below w4.heap.size w4 W5 := by rw [hW]; exact (Below.refl _ _).alloc (Nat.le_refl _) _
        have b8 : Bx w4.heap.size W5 (oneW H) (oneW H) A8 (oneL H).length c8 := by rw [hW]; exact Bx.start _ _ _ _ _ _ _
        have hl_b8 := b8.lt
        rw [← hW]
        clear hW
        replace hf := fun o => (hb.frozen (p := ⟨w.heap.size + 1, o, none⟩) (by show w.heap.size + 1 < _; omega)).trans (hf o)
        have hs_4 := hb.size
        replace HB := HB.trans (hb.mono HB.size)
        replace ba := ba.next hb
        replace br := br.next hb
        replace b6 := b6.next hb
        replace o6 := own_keep o6 hb
        replace o8 := own_keep o8 hb
        clear hb
        refine (implUnder_any W H A L.length c L (oneW W) (oneW W) A6 (oneL W).length c6 (oneL W) W5 rfl rfl hc (own_cap o6) ((hL.below HB).mono HB.size) (sqs_of_own o6) hwf (oneL_wf W)).mono ?_
        rw [put_2]
        rintro e w9 ⟨A9, c9, rfl, o9, hb⟩
        replace o9 := own_base (base' := w.heap.size + 2) o9 (by omega)
        replace hf := fun o => (hb.frozen (p := ⟨w.heap.size + 1, o, none⟩) (by show w.heap.size + 1 < _; omega)).trans (hf o)
        have hs_5 := hb.size
        replace HB := HB.trans (hb.mono HB.size)
        replace ba := ba.next hb
        replace br := br.next hb
        replace b6 := b6.next hb
        replace b8 := b8.next hb
        replace o6 := own_keep o6 hb
        replace o8 := own_keep o8 hb
        clear hb
        obtain ⟨_, r0, r1, r2⟩ := id br
        have t0 := hf 0
        have t1 := hf 1
        have t2 := hf 2
        obtain ⟨Z, hZ⟩ : ∃ Z, putT W H L 2 = Z := ⟨_, rfl⟩
        rw [hZ] at o9 ⊢
        have HZ := Lib.hid hZ
        clear hZ
        go_wp2_with fail
        have e1 := ((HB.setCell (p := ⟨w.heap.size + 1, 0, none⟩) (by simp) (.int .i64 Z.1)).setCell (p := ⟨w.heap.size + 1, 1, none⟩) (by simp) (.int .i64 Z.2.1)).setCell (p := ⟨w.heap.size + 1, 2, none⟩) (by simp) (.slice A9 Z.2.2.1.length c9)
        have e2 := own_base (base' := w.heap.size) (ownsRow_setCell_below (ownsRow_setCell_below (ownsRow_setCell_below o9 (a := ⟨w.heap.size + 1, 0, none⟩) (by first | omega | (simp; done) | (simp; omega)) (.int .i64 Z.1)) (a := ⟨w.heap.size + 1, 1, none⟩) (by first | omega | (simp; done) | (simp; omega)) (.int .i64 Z.2.1)) (a := ⟨w.heap.size + 1, 2, none⟩) (by first | omega | (simp; done) | (simp; omega)) (.slice A9 Z.2.2.1.length c9)) (by omega)
        rw [HZ.out]
        refine bodyPost_ret (v := .tuple #[.agg #[.int .i64 Z.1, .int .i64 Z.2.1, .slice A9 Z.2.2.1.length c9], .bool Z.2.2.2]) (by simp [results, Try.results52, go_sem, r0, r1, r2]) rfl ?_
        exact ⟨A9, c9, rfl, e2, e1⟩
      · by_cases h3 : e0 = 3
        · subst h3
          have ba := (Bx.start w W H A L.length c 28).next ((Below.refl _ _).alloc (Nat.le_refl _) (.cells #[.int .i64 0, .int .i64 0, .slice none 0 0] 28))
          have br : Bx (w.heap.size + 1) ((w.alloc (.cells #[.int .i64 W, .int .i64 H, .slice A L.length c] 28)).alloc (.cells #[.int .i64 0, .int .i64 0, .slice none 0 0] 28)) 0 0 none 0 0 := by simpa using Bx.start (w.alloc (.cells #[.int .i64 W, .int .i64 H, .slice A L.length c] 28)) 0 0 none 0 0 28
          have hf : ∀ o, (((w.alloc (.cells #[.int .i64 W, .int .i64 H, .slice A L.length c] 28)).alloc (.cells #[.int .i64 0, .int .i64 0, .slice none 0 0] 28))).frozen? ⟨w.heap.size + 1, o, none⟩ = false := fun o => World.frozen?_alloc_at _ _ _ _ (by simp)
          have HB : Below w.heap.size w ((w.alloc (.cells #[.int .i64 W, .int .i64 H, .slice A L.length c] 28)).alloc (.cells #[.int .i64 0, .int .i64 0, .slice none 0 0] 28)) := ((Below.refl _ _).alloc (Nat.le_refl _) _).alloc (by simp) _
          obtain ⟨W1, hW1⟩ : ∃ W1, W1 = ((w.alloc (.cells #[.int .i64 W, .int .i64 H, .slice A L.length c] 28)).alloc (.cells #[.int .i64 0, .int .i64 0, .slice none 0 0] 28)) := ⟨_, rfl⟩
          have hs_0 : w.heap.size + 2 = W1.heap.size := by rw [hW1]; simp
          rw [← hW1] at ba br hf HB
          obtain ⟨_, a0, a1, a2⟩ := id ba
          go_enter Try.func52, Try.ntmps52
          go_wp2_with fail
          rw [← hW1]
          clear hW1
          clear a0 a1 a2
          refine (implOne_any W W1).mono ?_
          rintro e w2 ⟨A6, c6, rfl, o6, hb⟩
          replace hf := fun o => (hb.frozen (p := ⟨w.heap.size + 1, o, none⟩) (by show w.heap.size + 1 < _; omega)).trans (hf o)
          have hs_1 := hb.size
          replace HB := HB.trans (hb.mono HB.size)
          replace ba := ba.next hb
          replace br := br.next hb
          clear hb
          obtain ⟨_, a0, a1, a2⟩ := id ba
          go_wp2_with fail
          clear a0 a1 a2
          obtain ⟨W3, hW⟩ : ∃ W3, W3 = w2.alloc (.cells #[.int .i64 (oneW W), .int .i64 (oneW W), .slice A6 (oneL W).length c6] 28) := ⟨_, rfl⟩
          have hb : Below w2.heap.size w2 W3 := by rw [hW]; exact (Below.refl _ _).alloc (Nat.le_refl _) _
          have b6 : Bx w2.heap.size W3 (oneW W) (oneW W) A6 (oneL W).length c6 := by rw [hW]; exact Bx.start _ _ _ _ _ _ _
          have hl_b6 := b6.lt
          rw [← hW]
          clear hW
          replace hf := fun o => (hb.frozen (p := ⟨w.heap.size + 1, o, none⟩) (by show w.heap.size + 1 < _; omega)).trans (hf o)
          have hs_2 := hb.size
          replace HB := HB.trans (hb.mono HB.size)
          replace ba := ba.next hb
          replace br := br.next hb
          replace o6 := own_keep o6 hb
          clear hb
          refine (implOne_any H W3).mono ?_
          rintro e w4 ⟨A8, c8, rfl, o8, hb⟩
          replace hf := fun o => (hb.frozen (p := ⟨w.heap.size + 1, o, none⟩) (by show w.heap.size + 1 < _; omega)).trans (hf o)
          have hs_3 := hb.size
          replace HB := HB.trans (hb.mono HB.size)
          replace ba := ba.next hb
          replace br := br.next hb
          replace b6 := b6.next hb
          replace o6 := own_keep o6 hb
          clear hb
          obtain ⟨_, a0, a1, a2⟩ := id ba
          obtain ⟨_, p0, p1, p2⟩ := id b6
          go_wp2_with fail
          clear a0 a1 a2 p0 p1 p2
          obtain ⟨W5, hW⟩ : ∃ W5, W5 = w4.alloc (.cells #[.int .i64 (oneW H), .int .i64 (oneW H), .slice A8 (oneL H).length c8] 28) := ⟨_, rfl⟩
          have hb : Below w4.heap.size w4 W5 := by rw [hW]; exact (Below.refl _ _).alloc (Nat.le_refl _) _
          have b8 : Bx w4.heap.size W5 (oneW H) (oneW H) A8 (oneL H).length c8 := by rw [hW]; exact Bx.start _ _ _ _ _ _ _
          have hl_b8 := b8.lt
          rw [← hW]
          clear hW
          replace hf := fun o => (hb.frozen (p := ⟨w.heap.size + 1, o, none⟩) (by show w.heap.size + 1 < _; omega)).trans (hf o)
          have hs_4 := hb.size
          replace HB := HB.trans (hb.mono HB.size)
          replace ba := ba.next hb
          replace br := br.next hb
          replace b6 := b6.next hb
          replace o6 := own_keep o6 hb
          replace o8 := own_keep o8 hb
          clear hb
          refine (implBeside_any (oneW H) (oneW H) A8 (oneL H).length c8 (oneL H) W H A L.length c L W5 rfl rfl (own_cap o8) hc (sqs_of_own o8) ((hL.below HB).mono HB.size) (oneL_wf H) hwf).mono ?_
          rw [put_3]
          rintro e w9 ⟨A9, c9, rfl, o9, hb⟩
          replace o9 := own_base (base' := w.heap.size + 2) o9 (by omega)
          replace hf := fun o => (hb.frozen (p := ⟨w.heap.size + 1, o, none⟩) (by show w.heap.size + 1 < _; omega)).trans (hf o)
          have hs_5 := hb.size
          replace HB := HB.trans (hb.mono HB.size)
          replace ba := ba.next hb
          replace br := br.next hb
          replace b6 := b6.next hb
          replace b8 := b8.next hb
          replace o6 := own_keep o6 hb
          replace o8 := own_keep o8 hb
          clear hb
          obtain ⟨_, r0, r1, r2⟩ := id br
          have t0 := hf 0
          have t1 := hf 1
          have t2 := hf 2
          obtain ⟨Z, hZ⟩ : ∃ Z, putT W H L 3 = Z := ⟨_, rfl⟩
          rw [hZ] at o9 ⊢
          have HZ := Lib.hid hZ
          clear hZ
          go_wp2_with fail
          have e1 := ((HB.setCell (p := ⟨w.heap.size + 1, 0, none⟩) (by simp) (.int .i64 Z.1)).setCell (p := ⟨w.heap.size + 1, 1, none⟩) (by simp) (.int .i64 Z.2.1)).setCell (p := ⟨w.heap.size + 1, 2, none⟩) (by simp) (.slice A9 Z.2.2.1.length c9)
          have e2 := own_base (base' := w.heap.size) (ownsRow_setCell_below (ownsRow_setCell_below (ownsRow_setCell_below o9 (a := ⟨w.heap.size + 1, 0, none⟩) (by first | omega | (simp; done) | (simp; omega)) (.int .i64 Z.1)) (a := ⟨w.heap.size + 1, 1, none⟩) (by first | omega | (simp; done) | (simp; omega)) (.int .i64 Z.2.1)) (a := ⟨w.heap.size + 1, 2, none⟩) (by first | omega | (simp; done) | (simp; omega)) (.slice A9 Z.2.2.1.length c9)) (by omega)
          rw [HZ.out]
          refine bodyPost_ret (v := .tuple #[.agg #[.int .i64 Z.1, .int .i64 Z.2.1, .slice A9 Z.2.2.1.length c9], .bool Z.2.2.2]) (by simp [results, Try.results52, go_sem, r0, r1, r2]) rfl ?_
          exact ⟨A9, c9, rfl, e2, e1⟩
        · have ba := (Bx.start w W H A L.length c 28).next ((Below.refl _ _).alloc (Nat.le_refl _) (.cells #[.int .i64 0, .int .i64 0, .slice none 0 0] 28))
          have br : Bx (w.heap.size + 1) ((w.alloc (.cells #[.int .i64 W, .int .i64 H, .slice A L.length c] 28)).alloc (.cells #[.int .i64 0, .int .i64 0, .slice none 0 0] 28)) 0 0 none 0 0 := by simpa using Bx.start (w.alloc (.cells #[.int .i64 W, .int .i64 H, .slice A L.length c] 28)) 0 0 none 0 0 28
          have hf : ∀ o, (((w.alloc (.cells #[.int .i64 W, .int .i64 H, .slice A L.length c] 28)).alloc (.cells #[.int .i64 0, .int .i64 0, .slice none 0 0] 28))).frozen? ⟨w.heap.size + 1, o, none⟩ = false := fun o => World.frozen?_alloc_at _ _ _ _ (by simp)
          have HB : Below w.heap.size w ((w.alloc (.cells #[.int .i64 W, .int .i64 H, .slice A L.length c] 28)).alloc (.cells #[.int .i64 0, .int .i64 0, .slice none 0 0] 28)) := ((Below.refl _ _).alloc (Nat.le_refl _) _).alloc (by simp) _
          obtain ⟨W1, hW1⟩ : ∃ W1, W1 = ((w.alloc (.cells #[.int .i64 W, .int .i64 H, .slice A L.length c] 28)).alloc (.cells #[.int .i64 0, .int .i64 0, .slice none 0 0] 28)) := ⟨_, rfl⟩
          have hs_0 : w.heap.size + 2 = W1.heap.size := by rw [hW1]; simp
          rw [← hW1] at ba br hf HB
          obtain ⟨_, a0, a1, a2⟩ := id ba
          go_enter Try.func52, Try.ntmps52
          go_wp2_with fail
          rw [← hW1]
          clear hW1
          clear a0 a1 a2
          refine (implOne_any W W1).mono ?_
          rintro e w2 ⟨A6, c6, rfl, o6, hb⟩
          replace hf := fun o => (hb.frozen (p := ⟨w.heap.size + 1, o, none⟩) (by show w.heap.size + 1 < _; omega)).trans (hf o)
          have hs_1 := hb.size
          replace HB := HB.trans (hb.mono HB.size)
          replace ba := ba.next hb
          replace br := br.next hb
          clear hb
          obtain ⟨_, a0, a1, a2⟩ := id ba
          go_wp2_with fail
          clear a0 a1 a2
          obtain ⟨W3, hW⟩ : ∃ W3, W3 = w2.alloc (.cells #[.int .i64 (oneW W), .int .i64 (oneW W), .slice A6 (oneL W).length c6] 28) := ⟨_, rfl⟩
          have hb : Below w2.heap.size w2 W3 := by rw [hW]; exact (Below.refl _ _).alloc (Nat.le_refl _) _
          have b6 : Bx w2.heap.size W3 (oneW W) (oneW W) A6 (oneL W).length c6 := by rw [hW]; exact Bx.start _ _ _ _ _ _ _
          have hl_b6 := b6.lt
          rw [← hW]
          clear hW
          replace hf := fun o => (hb.frozen (p := ⟨w.heap.size + 1, o, none⟩) (by show w.heap.size + 1 < _; omega)).trans (hf o)
          have hs_2 := hb.size
          replace HB := HB.trans (hb.mono HB.size)
          replace ba := ba.next hb
          replace br := br.next hb
          replace o6 := own_keep o6 hb
          clear hb
          refine (implOne_any H W3).mono ?_
          rintro e w4 ⟨A8, c8, rfl, o8, hb⟩
          replace hf := fun o => (hb.frozen (p := ⟨w.heap.size + 1, o, none⟩) (by show w.heap.size + 1 < _; omega)).trans (hf o)
          have hs_3 := hb.size
          replace HB := HB.trans (hb.mono HB.size)
          replace ba := ba.next hb
          replace br := br.next hb
          replace b6 := b6.next hb
          replace o6 := own_keep o6 hb
          clear hb
          obtain ⟨_, a0, a1, a2⟩ := id ba
          obtain ⟨_, p0, p1, p2⟩ := id b6
          obtain ⟨_, r0, r1, r2⟩ := id br
          have t0 := hf 0
          have t1 := hf 1
          have t2 := hf 2
          have d0 : (e0 == 0) = false := by simpa using h0
          have d1 : (e0 == 1) = false := by simpa using h1
          have d2 : (e0 == 2) = false := by simpa using h2
          have d3 : (e0 == 3) = false := by simpa using h3
          have hno := put_no (W := W) (H := H) (L := L) (e := e0) (by omega)
          have HNO := Lib.hid hno
          clear hno h0 h1 h2 h3
          go_wp2_with fail
          have hl := br.lt
          have e1 := (((HB.setCell (p := ⟨w.heap.size + 1, 0, none⟩) (by simp) (.int .i64 0)).setCell (p := ⟨w.heap.size + 1, 1, none⟩) (by simp) (.int .i64 0)).setCell (p := ⟨w.heap.size + 1, 2, none⟩) (by simp) (.slice none 0 0)).alloc (by simp; omega) (.cells #[.int .i64 (oneW H), .int .i64 (oneW H), .slice A8 (oneL H).length c8] 28)
          rw [HNO.out]
          refine bodyPost_ret (v := .tuple #[.agg #[.int .i64 0, .int .i64 0, .slice none 0 0], .bool false]) (by simp [results, Try.results52, go_sem, World.cell?_alloc_past, r0, r1, r2, hl]) rfl ?_
          exact RetT.no e1
end Go.Proofs.Ytnnhgblgbbfmpaa
