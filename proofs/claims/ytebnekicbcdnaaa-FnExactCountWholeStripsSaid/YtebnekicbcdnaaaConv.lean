/- Contracts of the conversions of the laws' types into the program's, and of comparing, marking and reading marks. -/
import Derived.Test.YtebnekicbcdnaaaLeaf
set_option linter.all false
namespace Go.Proofs.Ytebnekicbcdnaaa
open Go.RowKit

theorem infoSq : (Try.prog.info? 96).map (fun i => (i.zero, i.size, i.bytes)) = some (some (.agg #[.int .i64 0, .int .i64 0, .int .i64 0]), 3, 24) := by kernel_rfl

/-- A slice of squares of the call's own that reads as L. -/
def OwnSqs (w w' : World) (L : List Sq) (e : Ending) : Prop := ∃ g, e = .returned (.slice (some ⟨g, 0, none⟩) L.length L.length) ∧ Below w.heap.size w w' ∧ w'.ownsRow w.heap.size 96 3 (.slice (some ⟨g, 0, none⟩) L.length L.length) L.length (flat L)

set_option maxRecDepth 100000 in
theorem toSquareS_any (A : Option Addr) (n c : Nat) (L : List Sq) (w : World) (hl : L.length = n) (hn : n ≤ c) (hreach : n ≤ 1048576) (hL : SqsAt w w.heap.size A L) :
    Calls Try.prog 73 #[.slice A n c] w fun e w' => OwnSqs w w' L e := by
  obtain ⟨i0, hi, hz0, hz1, hz2⟩ := info_parts infoSq
  go_enter Try.func73, Try.ntmps73
  go_wp2_with (at_make; refine wpList_make_full _ rfl _ _ 44 rfl w.heap.size 96 i0 (.agg #[.int .i64 0, .int .i64 0, .int .i64 0]) 3 Try.underlying44 hi hz0 hz1 .i64 .i64 n n n rfl rfl rfl rfl (by rw [hz2]; omega) (by unfold maxLen; omega) (Nat.le_refl _) ?_; intro w1 hown hgrow)
  have hb1 : Below w.heap.size w w1 := (Below.refl _ w).grown hgrow (Nat.le_refl _) (by simp)
  clear hgrow
  obtain ⟨g, hg⟩ : ∃ g, g = w.heap.size := ⟨_, rfl⟩
  rw [← hg] at hown hb1 ⊢
  have hBg := Lib.hid hg
  clear hg
  go_loopw [4] (fun i wr => ∃ k : Nat, k ≤ n ∧ i = .int .i64 k ∧ ∃ xs, wr.ownsRow g 96 3 (.slice (some ⟨g, 0, none⟩) n n) n xs ∧ xs.take (k * 3) = flat (L.take k) ∧ Below g w wr) (fun i _ => n - (intOf i).toNat)
  case atStart => exact ⟨0, Nat.zero_le _, rfl, _, hown, by simp [flat], hb1⟩
  case round =>
    obtain ⟨k, hk, rfl, xs, hown1, htake, hbr⟩ := hrel
    by_cases hlt : k < n
    · have HL := Lib.hid hl
      have HT := Lib.hid htake
      clear hl htake hown hb1 w1
      obtain ⟨s, hs⟩ : ∃ s, L[k]? = some s := ⟨_, List.getElem?_eq_getElem (by rw [HL.out]; exact hlt)⟩
      obtain ⟨b, off, rfl, hb, c0, c1, c2⟩ := hL k s hs
      rw [← hBg.out] at hb
      have HS := Lib.hid hs
      clear hs hL
      have c0' := (hbr.cell (p := ⟨b, off + k * 3, none⟩) hb).trans c0
      have c1' := (hbr.cell (p := ⟨b, off + k * 3 + 1, none⟩) hb).trans c1
      have c2' := (hbr.cell (p := ⟨b, off + k * 3 + 2, none⟩) hb).trans c2
      clear c0 c1 c2
      go_wp2_with fail
      refine (toSquare_any _ _ _ _).mono ?_
      rintro e w2 ⟨rfl, hb2⟩
      have hown2 := own_keep hown1 hb2
      obtain ⟨v0, e0⟩ := own_some hown2 (j := k * 3) (by omega)
      obtain ⟨v1, e1⟩ := own_some hown2 (j := k * 3 + 1) (by omega)
      obtain ⟨v2, e2⟩ := own_some hown2 (j := k * 3 + 2) (by omega)
      have f0 := hown2.frozenAt (k * 3)
      have f1 := hown2.frozenAt (k * 3 + 1)
      have f2 := hown2.frozenAt (k * 3 + 2)
      go_wp2_with fail
      have hx := hown1.1
      have R := ((((hown2.stored (k * 3) (.int .i64 s.x)).1).stored (k * 3 + 1) (.int .i64 s.y)).1.stored (k * 3 + 2) (.int .i64 s.d)).1
      have hgl := own_lt hown1
      have hB := (((hbr.trans (hb2.mono (by omega))).setCell (p := ⟨g, k * 3, none⟩) (Nat.le_refl _) (.int .i64 s.x)).setCell (p := ⟨g, k * 3 + 1, none⟩) (Nat.le_refl _) (.int .i64 s.y)).setCell (p := ⟨g, k * 3 + 2, none⟩) (Nat.le_refl _) (.int .i64 s.d)
      go_roundw
      case rel => exact ⟨k + 1, by omega, by go_num, _, R, by rw [take_set3 _ _ _ _ _ (by omega), HT.out, flat_take_succ L k s HS.out], hB⟩
      case measure => simp [intOf]; omega
    · obtain rfl : k = n := by omega
      subst hl
      have hx := hown1.1
      rw [List.take_of_length_le (by omega), List.take_of_length_le (Nat.le_refl _)] at htake
      subst htake
      go_wp2_with fail
      go_ret
      exact ⟨g, rfl, by rw [← hBg.out]; exact hbr, by rw [← hBg.out]; exact hown1⟩

theorem eqSquareS_same (A A' : Option Addr) (n c c' : Nat) (L : List Sq) (w : World) (hl : L.length = n) (hn : n ≤ 1048576) (_hc : n ≤ c) (_hc' : n ≤ c') (hL : SqsAt w w.heap.size A L) (hL' : SqsAt w w.heap.size A' L) :
    Calls Try.prog 77 #[.slice A n c, .slice A' n c'] w fun e w' => e = .returned (.bool true) ∧ Below w.heap.size w w' := by
  go_enter Try.func77, Try.ntmps77
  go_wp2_with fail
  obtain ⟨g, hg⟩ : ∃ g, g = w.heap.size := ⟨_, rfl⟩
  rw [← hg] at hL hL'
  have hBg := Lib.hid hg
  clear hg
  go_loopw [5] (fun i wr => ∃ k : Nat, k ≤ n ∧ i = .int .i64 k ∧ Below g w wr) (fun i _ => n - (intOf i).toNat)
  case atStart => exact ⟨0, Nat.zero_le _, rfl, Below.refl _ _⟩
  case round =>
    obtain ⟨k, hk, rfl, hbr⟩ := hrel
    by_cases hlt : k < n
    · obtain ⟨s, hs⟩ : ∃ s, L[k]? = some s := ⟨_, List.getElem?_eq_getElem (by rw [hl]; exact hlt)⟩
      have hLw := hL.below hbr
      have hLw' := hL'.below hbr
      clear hL hL'
      obtain ⟨b, off, rfl, hb, c0, c1, c2⟩ := hLw k s hs
      obtain ⟨b', off', rfl, hb', d0, d1, d2⟩ := hLw' k s hs
      clear hLw hLw' hs hl
      have hsz : g ≤ wr.heap.size := by have := hbr.size; rw [hBg.out]; omega
      go_wp2_with fail
      have C0 : ∀ u : Later g wr, u.val.cell? ⟨b, off + k * 3, none⟩ = some (.int .i64 s.x) := fun u => (u.ok.cell (p := ⟨b, _, none⟩) hb).trans c0
      have C1 : ∀ u : Later g wr, u.val.cell? ⟨b, off + k * 3 + 1, none⟩ = some (.int .i64 s.y) := fun u => (u.ok.cell (p := ⟨b, _, none⟩) hb).trans c1
      have C2 : ∀ u : Later g wr, u.val.cell? ⟨b, off + k * 3 + 2, none⟩ = some (.int .i64 s.d) := fun u => (u.ok.cell (p := ⟨b, _, none⟩) hb).trans c2
      have D0 : ∀ u : Later g wr, u.val.cell? ⟨b', off' + k * 3, none⟩ = some (.int .i64 s.x) := fun u => (u.ok.cell (p := ⟨b', _, none⟩) hb').trans d0
      have D1 : ∀ u : Later g wr, u.val.cell? ⟨b', off' + k * 3 + 1, none⟩ = some (.int .i64 s.y) := fun u => (u.ok.cell (p := ⟨b', _, none⟩) hb').trans d1
      have D2 : ∀ u : Later g wr, u.val.cell? ⟨b', off' + k * 3 + 2, none⟩ = some (.int .i64 s.d) := fun u => (u.ok.cell (p := ⟨b', _, none⟩) hb').trans d2
      have k0 : (0 : Int) ≤ (k : Int) := by omega
      have k1 : (k : Int) < (n : Int) := by omega
      refine wp_region_sub g (by kernel_rfl) (by kernel_rfl) ?_
      repeat (first | go_big_quiet_step ((go_at_call 101; exact sub_of _ hsz (eqSquare_same s.x s.y s.d _))) | quiet_step ((go_at_call 101; exact sub_of _ hsz (eqSquare_same s.x s.y s.d _))))
      refine wpQuiet_nil ?_
      rintro _ ⟨⟨w2, hb2⟩, rfl⟩
      go_wp2_with fail
      go_roundw
      case rel => exact ⟨k + 1, by omega, by go_num, hbr.trans hb2⟩
      case measure => simp [intOf]; omega
    · go_wp2_with fail
      go_ret
      exact ⟨rfl, by rw [← hBg.out]; exact hbr⟩
end Go.Proofs.Ytebnekicbcdnaaa
