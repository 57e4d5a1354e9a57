/- A list of lists as an argument of laws; the model's CutOfCode. -/
import Derived.Test.YtbkfenhiaedlgaaDoorCodeM
import Derived.Test.YtbkfenhiaedlgaaDoorFillJ
import Derived.Test.YtbkfenhiaedlgaaDoorSSL
import Derived.Deep.Matrix
set_option linter.all false
namespace Go.Proofs.YtbkfenhiaedlgaaDoor
open Go.RowKit Go.ChangeShapes Go.Deep

theorem codeR_len (M : List (List Int)) : (codeR M).2.2.1.length ≤ 1048576 := by
  unfold codeR
  split
  · exact fillR_len _ _
  · simp
theorem own_nilc {w : World} {base n c : Nat} {e : TypeId} {size : Nat} {A : Option Addr} {xs : List Value} (h : w.ownsRow base e size (.slice A n c) n xs) (hA : A = none) : c = 0 := by
  subst hA
  rcases h.2 with ⟨h1, _⟩ | ⟨g, cap, cur, h1, _⟩
  · cases h1; rfl
  · cases h1
theorem OwnSS.rowsZ {w : World} {base : Nat} {A : Option Addr} {n c : Nat} {R : List Rw} (h : OwnSS w base A n c R) : RowsZ w w.heap.size A (lists R) := by
  intro i l hl
  obtain ⟨b, off, A', c', h1, h2, h3, h4, h5⟩ := h.rows i l hl
  refine ⟨b, off, A', c', h1, h2, h3, h4, h5, fun e => ?_⟩
  simp only [lists, List.getElem?_map] at hl
  cases hr : R[i]? with
  | none => rw [hr] at hl; cases hl
  | some r =>
    rw [hr] at hl
    cases hl
    have ho := h.inner.own r (List.mem_of_getElem? hr)
    have hn := h.outer.1
    rw [vals_len] at hn
    have hir := (List.getElem?_eq_some_iff.1 hr).1
    subst h1
    obtain ⟨g, hg⟩ := own_form h.outer (by omega)
    cases hg
    have hc := h.outer.cellAt i (by omega)
    rw [Nat.zero_add] at h3
    rw [hc] at h3
    simp only [vals, List.getElem?_map, hr, Option.map_some, Option.some.injEq, Rw.val, Value.slice.injEq] at h3
    obtain ⟨e1, _, e2⟩ := h3
    have := own_nilc ho (e1.trans e)
    omega
set_option maxRecDepth 100000 in
set_option maxHeartbeats 4000000 in
theorem toIntSS_any (A : Option Addr) (n c : Nat) (M : List (List Int)) (w : World) (hl : M.length = n) (hn : n ≤ 1048576) (hm : ∀ l ∈ M, l.length ≤ 1048576) (hL : RowsAt w w.heap.size A M) :
    Calls Tryd.prog 22 #[.slice A n c] w fun e w' => ∃ g R, e = .returned (.slice (some ⟨g, 0, none⟩) n n) ∧ lists R = M ∧ OwnSS w' w.heap.size (some ⟨g, 0, none⟩) n n R ∧ Below w.heap.size w w' := by
  subst hl
  obtain ⟨i0, hi, hz0, hz1, hz2⟩ := info_parts infoSl
  go_enter Tryd.func22, Tryd.ntmps22
  go_wp2_with (at_make; refine wpList_make_full _ rfl _ _ 38 rfl w.heap.size 89 i0 (.slice none 0 0) 1 Tryd.underlying38 hi hz0 hz1 .i64 .i64 M.length M.length M.length rfl rfl rfl rfl (by rw [hz2]; omega) (by unfold maxLen; omega) (Nat.le_refl _) ?_; intro w1 hown hgrow)
  have hb1 : Below w.heap.size w w1 := (Below.refl _ w).grown hgrow (Nat.le_refl _) (by simp)
  have hs1 := (own_lt hown).2
  clear hgrow
  obtain ⟨g, hg⟩ : ∃ g, g = w.heap.size := ⟨_, rfl⟩
  rw [← hg] at hown hb1 hs1 hL ⊢
  have HM := Lib.hid hm
  have HG := Lib.hid hg
  clear hg hm
  go_loopw [4] (fun i wr => ∃ (k : Nat) (R : List Rw), k ≤ M.length ∧ i = .int .i64 k ∧ lists R = M.take k ∧ Below g w wr ∧ g < wr.heap.size ∧ InRows wr (g + 1) R ∧ ∃ xs, wr.ownsRow g 89 1 (.slice (some ⟨g, 0, none⟩) M.length M.length) M.length xs ∧ xs.take k = vals R) (fun i _ => M.length - (intOf i).toNat)
  case atStart => exact ⟨0, [], Nat.zero_le _, rfl, rfl, hb1, hs1, InRows.nil _ _, _, hown, rfl⟩
  case round =>
    obtain ⟨k, R, hk, rfl, hR, hbr, hgr, hin, xs, hown1, htake⟩ := hrel
    have HR := Lib.hid hR
    have HT := Lib.hid htake
    clear hR htake hown hb1 hs1
    by_cases hlt : k < M.length
    · obtain ⟨l, hs⟩ : ∃ l, M[k]? = some l := ⟨_, List.getElem?_eq_getElem hlt⟩
      obtain ⟨b, off, A2, c2, rfl, hb, d0, hlc, hI⟩ := (hL.below hbr) k l hs
      have hl1 := HM.out l (List.mem_of_getElem? hs)
      have k0 : (0 : Int) ≤ (k : Int) := by omega
      have k1 : (k : Int) < (M.length : Int) := by omega
      have HS := Lib.hid hs
      have I2 := hI.mono (Nat.le_of_lt hgr)
      clear hs hL hI
      go_wp2_with fail
      refine (toIntS_any A2 l.length c2 l _ rfl hl1 I2).mono ?_
      rintro e w2 ⟨g2, rfl, hb2, ho2⟩
      have hin2 := hin.below hb2 (Nat.le_refl _)
      have own2 := own_keep hown1 hb2
      have hg2 := own_lt ho2
      obtain ⟨v0, e0⟩ := own_some own2 (j := k) (by omega)
      have f0 := own2.frozenAt k
      have hx := own2.1
      obtain ⟨S1, S2⟩ := own2.stored k (.slice (some ⟨g2, 0, none⟩) l.length l.length)
      have hin3 : InRows (w2.setCell ⟨g, k, none⟩ (.slice (some ⟨g2, 0, none⟩) l.length l.length)) (g + 1) (R ++ [⟨some ⟨g2, 0, none⟩, l.length, l⟩]) := by
        have hput := put_grown w2 ⟨g, k, none⟩ (.slice (some ⟨g2, 0, none⟩) l.length l.length)
        have h1 := hin2.snoc (r := ⟨some ⟨g2, 0, none⟩, l.length, l⟩) (own_base ho2 hgr) (fun kk hkk s hs e => by
          simp [Rw.val, Value.ownBlock] at hkk
          have := (hin.lt hs e).2
          omega)
        exact h1.blk fun r hr kk hkk => hput.block kk (h1.lt hr hkk).2 (fun e => by simp at e; have := (h1.lt hr hkk).1; omega)
      have hB3 := (hbr.trans (hb2.mono (Nat.le_of_lt hgr))).setCell (p := ⟨g, k, none⟩) (Nat.le_refl _) (.slice (some ⟨g2, 0, none⟩) l.length l.length)
      have hgz : g < (w2.setCell ⟨g, k, none⟩ (.slice (some ⟨g2, 0, none⟩) l.length l.length)).heap.size := by simp; omega
      clear hin hin2 hown1 hb2 ho2 S2
      go_wp2_with fail
      go_roundw
      case rel =>
        refine ⟨k + 1, _, by omega, by go_num, ?_, hB3, hgz, hin3, _, S1, ?_⟩
        · rw [lists_app, HR.out, List.take_add_one, HS.out]; rfl
        · rw [take_set1 _ _ _ (by omega), HT.out, vals_app]; rfl
      case measure => simp [intOf]; omega
    · obtain rfl : k = M.length := by omega
      have hx := hown1.1
      clear hL
      go_wp2_with fail
      go_ret
      have ex : xs = vals R := by
        have := HT.out
        rwa [List.take_of_length_le (by omega)] at this
      subst ex
      have hg := HG.out
      subst hg
      refine ⟨_, R, rfl, by rw [HR.out, List.take_of_length_le (Nat.le_refl _)], ⟨by have := congrArg List.length HR.out; simp [lists] at this; omega, hown1, ⟨fun r hr => own_base (hin.own r hr) (Nat.le_succ _), hin.apart⟩, fun r hr kk hkk e => by simp [Value.ownBlock] at e; have := (hin.lt hr hkk).1; omega⟩, hbr⟩
end Go.Proofs.YtbkfenhiaedlgaaDoor
