/- Clues and puzzles as the laws have them: conversions, comparing, marking, reading marks. -/
import Derived.Test.YtbkfenhiaedlgaaDoorGen
set_option linter.all false
namespace Go.Proofs.YtbkfenhiaedlgaaDoor
open Go.RowKit

theorem cls_of_own {w : World} {base : Nat} {A : Option Addr} {n c : Nat} {L : List Sq} (h : w.ownsRow base 122 3 (.slice A n c) n (flat L)) : SqsAt w w.heap.size A L := by
  intro i s hs
  have hl : n = L.length := by have := h.1; rw [flat_len] at this; omega
  have hi : i < L.length := by
    rcases Nat.lt_or_ge i L.length with h' | h'
    · exact h'
    · rw [List.getElem?_eq_none h'] at hs; cases hs
  have h2 := h.2
  rcases h2 with ⟨hn, hn0⟩ | ⟨g, cap, cur, he, _⟩
  · omega
  · cases he
    have f := flat_get L i s hs
    refine ⟨g, 0, rfl, (own_lt h).2, ?_⟩
    simp only [Nat.zero_add]
    exact ⟨(h.cellAt (i * 3) (by omega)).trans f.1, (h.cellAt (i * 3 + 1) (by omega)).trans f.2.1, (h.cellAt (i * 3 + 2) (by omega)).trans f.2.2⟩
theorem eqClue_same (x y d : Int) (w : World) :
    Calls Tryd.prog 137 #[.agg #[.int .i64 x, .int .i64 y, .int .i64 d], .agg #[.int .i64 x, .int .i64 y, .int .i64 d]] w fun e w' =>
      e = .returned (.bool true) ∧ Below w.heap.size w w' := by
  go_enter Tryd.func137, Tryd.ntmps137
  go_wp2
  go_ret
  exact ⟨rfl, ((Below.refl _ _).alloc (Nat.le_refl _) _).alloc (by simp) _⟩
theorem toClue_any (x y d : Int) (w : World) :
    Calls Tryd.prog 134 #[.agg #[.int .i64 x, .int .i64 y, .int .i64 d]] w fun e w' =>
      e = .returned (.agg #[.int .i64 x, .int .i64 y, .int .i64 d]) ∧ Below w.heap.size w w' := by
  go_enter Tryd.func134, Tryd.ntmps134
  go_wp2
  refine bodyPost_ret (v := .agg #[.int .i64 x, .int .i64 y, .int .i64 d]) (by simp [results, Tryd.results134, go_sem]) rfl ⟨rfl, ?_⟩
  exact (((Below.refl _ _).alloc (Nat.le_refl _) _).alloc (by simp) _).alloc (by simp; omega) _
theorem infoCl : (Tryd.prog.info? 122).map (fun i => (i.zero, i.size, i.bytes)) = some (some (.agg #[.int .i64 0, .int .i64 0, .int .i64 0]), 3, 24) := by kernel_rfl
/-- A slice of squares of the call's own that reads as L. -/
def OwnCls (w w' : World) (L : List Sq) (e : Ending) : Prop := ∃ g, e = .returned (.slice (some ⟨g, 0, none⟩) L.length L.length) ∧ Below w.heap.size w w' ∧ w'.ownsRow w.heap.size 122 3 (.slice (some ⟨g, 0, none⟩) L.length L.length) L.length (flat L)
set_option maxRecDepth 100000 in
theorem toClueS_any (A : Option Addr) (n c : Nat) (L : List Sq) (w : World) (hl : L.length = n) (hn : n ≤ c) (hreach : n ≤ 1048576) (hL : SqsAt w w.heap.size A L) :
    Calls Tryd.prog 85 #[.slice A n c] w fun e w' => OwnCls w w' L e := by
  obtain ⟨i0, hi, hz0, hz1, hz2⟩ := info_parts infoCl
  go_enter Tryd.func85, Tryd.ntmps85
  go_wp2_with (at_make; refine wpList_make_full _ rfl _ _ 63 rfl w.heap.size 122 i0 (.agg #[.int .i64 0, .int .i64 0, .int .i64 0]) 3 Tryd.underlying63 hi hz0 hz1 .i64 .i64 n n n rfl rfl rfl rfl (by rw [hz2]; omega) (by unfold maxLen; omega) (Nat.le_refl _) ?_; intro w1 hown hgrow)
  have hb1 : Below w.heap.size w w1 := (Below.refl _ w).grown hgrow (Nat.le_refl _) (by simp)
  clear hgrow
  obtain ⟨g, hg⟩ : ∃ g, g = w.heap.size := ⟨_, rfl⟩
  rw [← hg] at hown hb1 ⊢
  have hBg := Lib.hid hg
  clear hg
  go_loopw [4] (fun i wr => ∃ k : Nat, k ≤ n ∧ i = .int .i64 k ∧ ∃ xs, wr.ownsRow g 122 3 (.slice (some ⟨g, 0, none⟩) n n) n xs ∧ xs.take (k * 3) = flat (L.take k) ∧ Below g w wr) (fun i _ => n - (intOf i).toNat)
  case atStart => exact ⟨0, Nat.zero_le _, rfl, _, hown, by simp [flat], hb1⟩
  case round =>
    obtain ⟨k, hk, rfl, xs, hown1, htake, hbr⟩ := hrel
    by_cases hlt : k < n
    · have HL := Lib.hid hl
      have HT := Lib.hid htake
      clear hl htake hown hb1 w1
      obtain ⟨s, hs⟩ : ∃ s, L[k]? = some s := ⟨_, List.getElem?_eq_getElem (by rw [HL.out]; exact hlt)⟩
      obtain ⟨b, off, rfl, hb, c0, c1, c2⟩ := hL k s hs
      rw [← hBg.out] at hb
      have HS := Lib.hid hs
      clear hs hL
      have c0' := (hbr.cell (p := ⟨b, off + k * 3, none⟩) hb).trans c0
      have c1' := (hbr.cell (p := ⟨b, off + k * 3 + 1, none⟩) hb).trans c1
      have c2' := (hbr.cell (p := ⟨b, off + k * 3 + 2, none⟩) hb).trans c2
      clear c0 c1 c2
      go_wp2_with fail
      refine (toClue_any _ _ _ _).mono ?_
      rintro e w2 ⟨rfl, hb2⟩
      have hown2 := own_keep hown1 hb2
      obtain ⟨v0, e0⟩ := own_some hown2 (j := k * 3) (by omega)
      obtain ⟨v1, e1⟩ := own_some hown2 (j := k * 3 + 1) (by omega)
      obtain ⟨v2, e2⟩ := own_some hown2 (j := k * 3 + 2) (by omega)
      have f0 := hown2.frozenAt (k * 3)
      have f1 := hown2.frozenAt (k * 3 + 1)
      have f2 := hown2.frozenAt (k * 3 + 2)
      go_wp2_with fail
      have hx := hown1.1
      have R := ((((hown2.stored (k * 3) (.int .i64 s.x)).1).stored (k * 3 + 1) (.int .i64 s.y)).1.stored (k * 3 + 2) (.int .i64 s.d)).1
      have hgl := own_lt hown1
      have hB := (((hbr.trans (hb2.mono (by omega))).setCell (p := ⟨g, k * 3, none⟩) (Nat.le_refl _) (.int .i64 s.x)).setCell (p := ⟨g, k * 3 + 1, none⟩) (Nat.le_refl _) (.int .i64 s.y)).setCell (p := ⟨g, k * 3 + 2, none⟩) (Nat.le_refl _) (.int .i64 s.d)
      go_roundw
      case rel => exact ⟨k + 1, by omega, by go_num, _, R, by rw [take_set3 _ _ _ _ _ (by omega), HT.out, flat_take_succ L k s HS.out], hB⟩
      case measure => simp [intOf]; omega
    · obtain rfl : k = n := by omega
      subst hl
      have hx := hown1.1
      rw [List.take_of_length_le (by omega), List.take_of_length_le (Nat.le_refl _)] at htake
      subst htake
      go_wp2_with fail
      go_ret
      exact ⟨g, rfl, by rw [← hBg.out]; exact hbr, by rw [← hBg.out]; exact hown1⟩
theorem eqClueS_same (A A' : Option Addr) (n c c' : Nat) (L : List Sq) (w : World) (hl : L.length = n) (hn : n ≤ 1048576) (_hc : n ≤ c) (_hc' : n ≤ c') (hL : SqsAt w w.heap.size A L) (hL' : SqsAt w w.heap.size A' L) :
    Calls Tryd.prog 87 #[.slice A n c, .slice A' n c'] w fun e w' => e = .returned (.bool true) ∧ Below w.heap.size w w' := by
  go_enter Tryd.func87, Tryd.ntmps87
  go_wp2_with fail
  obtain ⟨g, hg⟩ : ∃ g, g = w.heap.size := ⟨_, rfl⟩
  rw [← hg] at hL hL'
  have hBg := Lib.hid hg
  clear hg
  go_loopw [5] (fun i wr => ∃ k : Nat, k ≤ n ∧ i = .int .i64 k ∧ Below g w wr) (fun i _ => n - (intOf i).toNat)
  case atStart => exact ⟨0, Nat.zero_le _, rfl, Below.refl _ _⟩
  case round =>
    obtain ⟨k, hk, rfl, hbr⟩ := hrel
    by_cases hlt : k < n
    · obtain ⟨s, hs⟩ : ∃ s, L[k]? = some s := ⟨_, List.getElem?_eq_getElem (by rw [hl]; exact hlt)⟩
      have hLw := hL.below hbr
      have hLw' := hL'.below hbr
      clear hL hL'
      obtain ⟨b, off, rfl, hb, c0, c1, c2⟩ := hLw k s hs
      obtain ⟨b', off', rfl, hb', d0, d1, d2⟩ := hLw' k s hs
      clear hLw hLw' hs hl
      have hsz : g ≤ wr.heap.size := by have := hbr.size; rw [hBg.out]; omega
      go_wp2_with fail
      have C0 : ∀ u : Later g wr, u.val.cell? ⟨b, off + k * 3, none⟩ = some (.int .i64 s.x) := fun u => (u.ok.cell (p := ⟨b, _, none⟩) hb).trans c0
      have C1 : ∀ u : Later g wr, u.val.cell? ⟨b, off + k * 3 + 1, none⟩ = some (.int .i64 s.y) := fun u => (u.ok.cell (p := ⟨b, _, none⟩) hb).trans c1
      have C2 : ∀ u : Later g wr, u.val.cell? ⟨b, off + k * 3 + 2, none⟩ = some (.int .i64 s.d) := fun u => (u.ok.cell (p := ⟨b, _, none⟩) hb).trans c2
      have D0 : ∀ u : Later g wr, u.val.cell? ⟨b', off' + k * 3, none⟩ = some (.int .i64 s.x) := fun u => (u.ok.cell (p := ⟨b', _, none⟩) hb').trans d0
      have D1 : ∀ u : Later g wr, u.val.cell? ⟨b', off' + k * 3 + 1, none⟩ = some (.int .i64 s.y) := fun u => (u.ok.cell (p := ⟨b', _, none⟩) hb').trans d1
      have D2 : ∀ u : Later g wr, u.val.cell? ⟨b', off' + k * 3 + 2, none⟩ = some (.int .i64 s.d) := fun u => (u.ok.cell (p := ⟨b', _, none⟩) hb').trans d2
      have k0 : (0 : Int) ≤ (k : Int) := by omega
      have k1 : (k : Int) < (n : Int) := by omega
      refine wp_region_sub g (by kernel_rfl) (by kernel_rfl) ?_
      repeat (first | go_big_quiet_step ((go_at_call 137; exact sub_of _ hsz (eqClue_same s.x s.y s.d _))) | quiet_step ((go_at_call 137; exact sub_of _ hsz (eqClue_same s.x s.y s.d _))))
      refine wpQuiet_nil ?_
      rintro _ ⟨⟨w2, hb2⟩, rfl⟩
      go_wp2_with fail
      go_roundw
      case rel => exact ⟨k + 1, by omega, by go_num, hbr.trans hb2⟩
      case measure => simp [intOf]; omega
    · go_wp2_with fail
      go_ret
      exact ⟨rfl, by rw [← hBg.out]; exact hbr⟩
/-- A cut of the call's own that reads as W, H, L. -/
def OwnPuzzle (w w' : World) (W H : Int) (L : List Sq) (e : Ending) : Prop := ∃ g, e = .returned (.agg #[.int .i64 W, .int .i64 H, .slice (some ⟨g, 0, none⟩) L.length L.length]) ∧ Below w.heap.size w w' ∧ w'.ownsRow w.heap.size 122 3 (.slice (some ⟨g, 0, none⟩) L.length L.length) L.length (flat L)
theorem szClueS_ok (A : Option Addr) (n c : Nat) (left : Int) (w : World) (h1 : left ≤ 1048576) (h : (n : Int) ≤ left) :
    Calls Tryd.prog 82 #[.slice A n c, .int .i64 left] w fun e w' => e = .returned (.int .i64 (left - n)) ∧ w = w' := by
  have h' : ¬ left - n < 0 := by omega
  go_enter Tryd.func82, Tryd.ntmps82
  go_wp2
  go_ret
  exact ⟨rfl, rfl⟩
theorem szClueS_over (A : Option Addr) (n c : Nat) (left : Int) (w : World) (h0 : 0 ≤ left) (h : left < n) (hn : n ≤ 9223372036854775807) :
    Calls Tryd.prog 82 #[.slice A n c, .int .i64 left] w fun e w' => e = .returned (.int .i64 (-1)) ∧ w = w' := by
  have h' : left - n < 0 := by omega
  go_enter Tryd.func82, Tryd.ntmps82
  go_wp2
  go_ret
  exact ⟨rfl, rfl⟩
theorem toPuzzle_any (W H : Int) (A : Option Addr) (n c : Nat) (L : List Sq) (w : World) (hl : L.length = n) (hn : n ≤ c) (hreach : n ≤ 1048576) (hL : SqsAt w w.heap.size A L) :
    Calls Tryd.prog 36 #[.agg #[.int .i64 W, .int .i64 H, .slice A n c]] w fun e w' => OwnPuzzle w w' W H L e := by
  subst hl
  go_enter Tryd.func36, Tryd.ntmps36
  go_wp2_with fail
  have hb0 : Below w.heap.size w (((w.alloc (.cells #[.int .i64 W, .int .i64 H, .slice A L.length c] 60)).alloc (.cells #[.int .i64 0, .int .i64 0, .slice none 0 0] 65)).alloc (.cells #[.int .i64 W, .int .i64 H, .slice none 0 0] 65)) :=
    (((Below.refl _ _).alloc (Nat.le_refl _) _).alloc (by simp) _).alloc (by simp; omega) _
  refine (toClueS_any A _ c L _ rfl hn hreach ((hL.below hb0).mono hb0.size)).mono ?_
  rintro e w3 ⟨g, rfl, hb, hown⟩
  have hb1 := hb0.trans (hb.mono hb0.size)
  obtain ⟨hc, hf⟩ := bcell hb
  have hz := hb.size
  simp only [World.size_alloc] at hc hf hz hown
  have hgl := own_lt hown
  go_wp2_with fail
  refine bodyPost_ret (v := .agg #[.int .i64 W, .int .i64 H, .slice (some ⟨g, 0, none⟩) L.length L.length]) (by simp [results, Tryd.results36, go_sem, hc]) rfl ⟨g, rfl, ?_, ?_⟩
  · exact (((hb1.setCell (by simp; omega) _).setCell (by simp) _).setCell (by simp) _).setCell (by simp) _
  · refine own_base ?_ (show w.heap.size ≤ w.heap.size + 1 + 1 + 1 by omega)
    exact ownsRow_setCell_below (ownsRow_setCell_below (ownsRow_setCell_below (ownsRow_setCell_below hown (by simp) _) (by simp <;> omega) _) (by simp <;> omega) _) (by simp <;> omega) _
theorem eqPuzzle_same (W H : Int) (A A' : Option Addr) (n c c' : Nat) (L : List Sq) (w : World) (hl : L.length = n) (hn : n ≤ 1048576) (hc : n ≤ c) (hc' : n ≤ c') (hL : SqsAt w w.heap.size A L) (hL' : SqsAt w w.heap.size A' L) :
    Calls Tryd.prog 38 #[.agg #[.int .i64 W, .int .i64 H, .slice A n c], .agg #[.int .i64 W, .int .i64 H, .slice A' n c']] w fun e w' => e = .returned (.bool true) ∧ Below w.heap.size w w' := by
  subst hl
  go_enter Tryd.func38, Tryd.ntmps38
  go_wp2_with fail
  have hb0 : Below w.heap.size w ((w.alloc (.cells #[.int .i64 W, .int .i64 H, .slice A L.length c] 65)).alloc (.cells #[.int .i64 W, .int .i64 H, .slice A' L.length c'] 65)) :=
    ((Below.refl _ _).alloc (Nat.le_refl _) _).alloc (by simp) _
  refine (eqClueS_same A A' _ c c' L _ rfl hn hc hc' ((hL.below hb0).mono hb0.size) ((hL'.below hb0).mono hb0.size)).mono ?_
  rintro e w3 ⟨rfl, hb⟩
  have hb1 := hb0.trans (hb.mono hb0.size)
  go_wp2_with fail
  go_ret
  exact ⟨rfl, hb1⟩
theorem markClueS_any (A : Option Addr) (n c base : Nat) (xs : List Value) (k0 : Int) (w : World) (hn : n ≤ 1048576) (h0 : 0 ≤ k0) (h1 : k0 ≤ 1000000000) (hown : w.ownsRow base 122 3 (.slice A n c) n xs) :
    Calls Tryd.prog 90 #[.slice A n c, .int .i64 k0] w fun e w' => e = .returned (.int .i64 (k0 + 3 * n)) ∧ w'.ownsRow base 122 3 (.slice A n c) n (flat (upS k0 n)) ∧ w.grownBy w' (Value.slice A n c).ownBlock := by
  go_enter Tryd.func90, Tryd.ntmps90
  go_wp2_with fail
  go_loopw [1, 5] (fun q i wr => ∃ k : Nat, k ≤ n ∧ i = .int .i64 k ∧ q = .int .i64 (k0 + 3 * k) ∧ w.grownBy wr (Value.slice A n c).ownBlock ∧ ∃ ys, wr.ownsRow base 122 3 (.slice A n c) n ys ∧ ys.take (k * 3) = flat (upS k0 k)) (fun _ i _ => n - (intOf i).toNat)
  case atStart => exact ⟨0, Nat.zero_le _, rfl, by simp, grown_refl _ _, xs, hown, by simp [flat, upS]⟩
  case round =>
    obtain ⟨k, hk, rfl, rfl, hgr, ys, hown1, htake⟩ := hrel
    by_cases hlt : k < n
    · obtain ⟨g, rfl⟩ := own_form hown1 (by omega)
      obtain ⟨v0, e0⟩ := own_some hown1 (j := k * 3) (by omega)
      obtain ⟨v1, e1⟩ := own_some hown1 (j := k * 3 + 1) (by omega)
      obtain ⟨v2, e2⟩ := own_some hown1 (j := k * 3 + 2) (by omega)
      have f0 := hown1.frozenAt (k * 3)
      have f1 := hown1.frozenAt (k * 3 + 1)
      have f2 := hown1.frozenAt (k * 3 + 2)
      have R0 := hown1.stored (k * 3) (.int .i64 (k0 + 3 * k))
      have R1 := R0.1.stored (k * 3 + 1) (.int .i64 (k0 + 3 * k + 1))
      have R2 := R1.1.stored (k * 3 + 2) (.int .i64 (k0 + 3 * k + 1 + 1))
      have hy := hown1.1
      have HT := Lib.hid htake
      have HR := Lib.hid (And.intro R2.1 (grown_trans hgr (grown_trans R0.2 (grown_trans R1.2 R2.2))))
      clear htake hown hown1 R0 R1 R2 hgr
      go_wp2_with fail
      go_roundw
      case rel =>
        refine ⟨k + 1, by omega, by go_num, by rw [show k0 + 3 * ((k + 1 : Nat) : Int) = k0 + 3 * k + 1 + 1 + 1 by omega], HR.out.2, _, HR.out.1, ?_⟩
        rw [take_set3 _ _ _ _ _ (by omega), HT.out, upS_succ, flat_app]; rfl
      case measure => simp [intOf]; omega
    · obtain rfl : k = n := by omega
      have hy := hown1.1
      rw [List.take_of_length_le (by omega)] at htake
      subst htake
      go_wp2_with fail
      go_ret
      exact ⟨rfl, hown1, hgr⟩
theorem heldClueS_any (A : Option Addr) (n c : Nat) (k0 : Int) (w : World) (hn : n ≤ 1048576) (h0 : 0 ≤ k0) (h1 : k0 ≤ 1000000000) (hL : SqsAt w w.heap.size A (upS k0 n)) :
    Calls Tryd.prog 91 #[.slice A n c, .int .i64 k0] w fun e w' => e = .returned (.int .i64 (k0 + 3 * n)) ∧ w = w' := by
  go_enter Tryd.func91, Tryd.ntmps91
  go_wp2_with fail
  go_loop [1, 5] (fun q i => ∃ k : Nat, k ≤ n ∧ i = .int .i64 k ∧ q = .int .i64 (k0 + 3 * k)) (fun _ i => n - (intOf i).toNat)
  case atStart => exact ⟨0, Nat.zero_le _, rfl, by simp⟩
  case round =>
    obtain ⟨k, hk, rfl, rfl⟩ := hrel
    by_cases hlt : k < n
    · obtain ⟨b, off, rfl, hb, c0, c1, c2⟩ := hL k _ (upS_get k0 n k hlt)
      simp only at c0 c1 c2
      clear hL
      go_wp2_with fail
      go_round
      case rel => exact ⟨k + 1, by omega, by go_num, by rw [show k0 + 3 * ((k + 1 : Nat) : Int) = k0 + 3 * k + 1 + 1 + 1 by omega]⟩
      case measure => simp [intOf]; omega
    · obtain rfl : k = n := by omega
      go_wp2_with fail
      go_ret
      exact ⟨rfl, rfl⟩
/-- It returns a cut in memory of the call's own, and a bool. -/
def RetPuzzle (w : World) (W H : Int) (R : List Sq) (ok : Bool) (e : Ending) (w' : World) : Prop :=
  ∃ A c, e = .returned (.tuple #[.agg #[.int .i64 W, .int .i64 H, .slice A R.length c], .bool ok]) ∧ w'.ownsRow w.heap.size 122 3 (.slice A R.length c) R.length (flat R) ∧ Below w.heap.size w w'
theorem RetPuzzle.mk {w w' : World} {W H : Int} {A : Option Addr} {n c : Nat} {R : List Sq} {ok : Bool} (hn : n = R.length) (ho : w'.ownsRow w.heap.size 122 3 (.slice A n c) n (flat R)) (hb : Below w.heap.size w w') :
    RetPuzzle w W H R ok (.returned (.tuple #[.agg #[.int .i64 W, .int .i64 H, .slice A n c], .bool ok])) w' := by
  subst hn; exact ⟨A, c, rfl, ho, hb⟩
theorem RetPuzzle.none_ {w w' : World} (hb : Below w.heap.size w w') : RetPuzzle w 0 0 [] false (.returned (.tuple #[.agg #[.int .i64 0, .int .i64 0, .slice none 0 0], .bool false])) w' :=
  ⟨none, 0, rfl, World.ownsRow_nil _ _ _ _, hb⟩
theorem markPuzzle_any (W H : Int) (A : Option Addr) (n c base : Nat) (xs : List Value) (k0 : Int) (w : World) (hn : n ≤ 1048576) (h0 : 0 ≤ k0) (h1 : k0 ≤ 1000000000) (hown : w.ownsRow base 122 3 (.slice A n c) n xs) :
    Calls Tryd.prog 41 #[.agg #[.int .i64 W, .int .i64 H, .slice A n c], .int .i64 k0] w fun e w' => e = .returned (.int .i64 (k0 + 3 * n)) ∧ w'.ownsRow base 122 3 (.slice A n c) n (flat (upS k0 n)) ∧ w.grownBy w' (Value.slice A n c).ownBlock := by
  have hb0 : ∀ o : Obj, w.grownBy (w.alloc o) (Value.slice A n c).ownBlock := fun o => World.grownBy_alloc w o _
  go_enter Tryd.func41, Tryd.ntmps41
  go_wp2_with fail
  refine (markClueS_any A n c base xs k0 _ hn h0 h1 (hown.alloc _)).mono ?_
  rintro e w1 ⟨rfl, ho, hg⟩
  go_wp2_with fail
  go_ret
  exact ⟨rfl, ho, grown_trans (hb0 _) hg⟩
theorem heldPuzzle_any (W H : Int) (A : Option Addr) (n c : Nat) (k0 : Int) (w : World) (hn : n ≤ 1048576) (h0 : 0 ≤ k0) (h1 : k0 ≤ 1000000000) (hL : SqsAt w w.heap.size A (upS k0 n)) :
    Calls Tryd.prog 42 #[.agg #[.int .i64 W, .int .i64 H, .slice A n c], .int .i64 k0] w fun e w' => e = .returned (.int .i64 (k0 + 3 * n)) ∧ Below w.heap.size w w' := by
  have hb0 : ∀ o : Obj, Below w.heap.size w (w.alloc o) := fun o => (Below.refl _ _).alloc (Nat.le_refl _) o
  have h' : ¬ k0 + 3 * (n : Int) < 0 := by omega
  go_enter Tryd.func42, Tryd.ntmps42
  go_wp2_with fail
  refine (heldClueS_any A n c k0 _ hn h0 h1 ((hL.below (hb0 _)).mono (hb0 _).size)).mono ?_
  rintro e w1 ⟨rfl, rfl⟩
  go_wp2_with fail
  go_ret
  exact ⟨rfl, hb0 _⟩
theorem szPuzzleL_ok (W H : Int) (A : Option Addr) (n c : Nat) (left : Int) (w : World) (h1 : left ≤ 1048576) (h : (n : Int) ≤ left) :
    Calls Tryd.prog 34 #[.agg #[.int .i64 W, .int .i64 H, .slice A n c], .int .i64 left] w fun e w' => e = .returned (.int .i64 (left - n)) ∧ Below w.heap.size w w' := by
  have h' : ¬ left - n < 0 := by omega
  go_enter Tryd.func34, Tryd.ntmps34
  go_wp2_with fail
  refine (szClueS_ok A n c _ _ h1 h).mono ?_
  rintro e w' ⟨rfl, rfl⟩
  go_wp2
  go_ret
  exact ⟨rfl, (Below.refl _ _).alloc (Nat.le_refl _) _⟩
theorem szPuzzleL_over (W H : Int) (A : Option Addr) (n c : Nat) (left : Int) (w : World) (h0 : 0 ≤ left) (h1 : left ≤ 1048576) (h : left < n) (hn : n ≤ 9223372036854775807) :
    Calls Tryd.prog 34 #[.agg #[.int .i64 W, .int .i64 H, .slice A n c], .int .i64 left] w fun e w' => e = .returned (.int .i64 (-1)) ∧ Below w.heap.size w w' := by
  go_enter Tryd.func34, Tryd.ntmps34
  go_wp2_with fail
  refine (szClueS_over A n c _ _ h0 h hn).mono ?_
  rintro e w' ⟨rfl, rfl⟩
  go_wp2
  go_ret
  exact ⟨rfl, (Below.refl _ _).alloc (Nat.le_refl _) _⟩
/-- Blocks of a row of a call's own. -/
theorem own_in {w : World} {base : Nat} {e : TypeId} {size n : Nat} {v : Value} {xs : List Value} (h : w.ownsRow base e size v n xs) : Hid (∀ k, v.ownBlock = some k → base ≤ k ∧ k < w.heap.size) := Lib.hid fun k hk => h.lt k hk
end Go.Proofs.YtbkfenhiaedlgaaDoor
