/- Contracts of the conversions of cuts, and of comparing cuts. -/
import Derived.Test.YtebnekicbcdnaaaConv
set_option linter.all false
namespace Go.Proofs.Ytebnekicbcdnaaa
open Go.RowKit

/-- A cut of the call's own that reads as W, H, L. -/
def OwnCut (w w' : World) (W H : Int) (L : List Sq) (e : Ending) : Prop := ∃ g, e = .returned (.agg #[.int .i64 W, .int .i64 H, .slice (some ⟨g, 0, none⟩) L.length L.length]) ∧ Below w.heap.size w w' ∧ w'.ownsRow w.heap.size 96 3 (.slice (some ⟨g, 0, none⟩) L.length L.length) L.length (flat L)

theorem szSquareS_ok (A : Option Addr) (n c : Nat) (left : Int) (w : World) (h1 : left ≤ 1048576) (h : (n : Int) ≤ left) :
    Calls Try.prog 70 #[.slice A n c, .int .i64 left] w fun e w' => e = .returned (.int .i64 (left - n)) ∧ w = w' := by
  have h' : ¬ left - n < 0 := by omega
  go_enter Try.func70, Try.ntmps70
  go_wp2
  go_ret
  exact ⟨rfl, rfl⟩
theorem szSquareS_over (A : Option Addr) (n c : Nat) (left : Int) (w : World) (h0 : 0 ≤ left) (h : left < n) (hn : n ≤ 9223372036854775807) :
    Calls Try.prog 70 #[.slice A n c, .int .i64 left] w fun e w' => e = .returned (.int .i64 (-1)) ∧ w = w' := by
  have h' : left - n < 0 := by omega
  go_enter Try.func70, Try.ntmps70
  go_wp2
  go_ret
  exact ⟨rfl, rfl⟩

theorem szCut_ok (W H : Int) (A : Option Addr) (n c : Nat) (w : World) (hn : n ≤ 1048576) :
    Calls Try.prog 35 #[.agg #[.int .i64 W, .int .i64 H, .slice A n c], .int .i64 1048576] w fun e w' => e = .returned (.int .i64 (1048576 - n)) ∧ Below w.heap.size w w' := by
  have h' : ¬ (1048576 : Int) - n < 0 := by omega
  go_enter Try.func35, Try.ntmps35
  go_wp2_with fail
  refine (szSquareS_ok A n c _ _ (by omega) (by omega)).mono ?_
  rintro e w' ⟨rfl, rfl⟩
  go_wp2
  go_ret
  exact ⟨rfl, (Below.refl _ _).alloc (Nat.le_refl _) _⟩
theorem szCut_over (W H : Int) (A : Option Addr) (n c : Nat) (w : World) (h : 1048576 < n) (hn : n ≤ 9223372036854775807) :
    Calls Try.prog 35 #[.agg #[.int .i64 W, .int .i64 H, .slice A n c], .int .i64 1048576] w fun e w' => e = .returned (.int .i64 (-1)) ∧ Below w.heap.size w w' := by
  go_enter Try.func35, Try.ntmps35
  go_wp2_with fail
  refine (szSquareS_over A n c _ _ (by omega) (by omega) hn).mono ?_
  rintro e w' ⟨rfl, rfl⟩
  go_wp2
  go_ret
  exact ⟨rfl, (Below.refl _ _).alloc (Nat.le_refl _) _⟩

theorem toCut_any (W H : Int) (A : Option Addr) (n c : Nat) (L : List Sq) (w : World) (hl : L.length = n) (hn : n ≤ c) (hreach : n ≤ 1048576) (hL : SqsAt w w.heap.size A L) :
    Calls Try.prog 37 #[.agg #[.int .i64 W, .int .i64 H, .slice A n c]] w fun e w' => OwnCut w w' W H L e := by
  subst hl
  go_enter Try.func37, Try.ntmps37
  go_wp2_with fail
  have hb0 : Below w.heap.size w (((w.alloc (.cells #[.int .i64 W, .int .i64 H, .slice A L.length c] 41)).alloc (.cells #[.int .i64 0, .int .i64 0, .slice none 0 0] 46)).alloc (.cells #[.int .i64 W, .int .i64 H, .slice none 0 0] 46)) :=
    (((Below.refl _ _).alloc (Nat.le_refl _) _).alloc (by simp) _).alloc (by simp; omega) _
  refine (toSquareS_any A _ c L _ rfl hn hreach ((hL.below hb0).mono hb0.size)).mono ?_
  rintro e w3 ⟨g, rfl, hb, hown⟩
  have hb1 := hb0.trans (hb.mono hb0.size)
  obtain ⟨hc, hf⟩ := bcell hb
  have hz := hb.size
  simp only [World.size_alloc] at hc hf hz hown
  have hgl := own_lt hown
  go_wp2_with fail
  refine bodyPost_ret (v := .agg #[.int .i64 W, .int .i64 H, .slice (some ⟨g, 0, none⟩) L.length L.length]) (by simp [results, Try.results37, go_sem, hc]) rfl ⟨g, rfl, ?_, ?_⟩
  · exact (((hb1.setCell (by simp; omega) _).setCell (by simp) _).setCell (by simp) _).setCell (by simp) _
  · refine own_base ?_ (show w.heap.size ≤ w.heap.size + 1 + 1 + 1 by omega)
    exact ownsRow_setCell_below (ownsRow_setCell_below (ownsRow_setCell_below (ownsRow_setCell_below hown (by simp) _) (by simp <;> omega) _) (by simp <;> omega) _) (by simp <;> omega) _

theorem eqCut_same (W H : Int) (A A' : Option Addr) (n c c' : Nat) (L : List Sq) (w : World) (hl : L.length = n) (hn : n ≤ 1048576) (hc : n ≤ c) (hc' : n ≤ c') (hL : SqsAt w w.heap.size A L) (hL' : SqsAt w w.heap.size A' L) :
    Calls Try.prog 39 #[.agg #[.int .i64 W, .int .i64 H, .slice A n c], .agg #[.int .i64 W, .int .i64 H, .slice A' n c']] w fun e w' => e = .returned (.bool true) ∧ Below w.heap.size w w' := by
  subst hl
  go_enter Try.func39, Try.ntmps39
  go_wp2_with fail
  have hb0 : Below w.heap.size w ((w.alloc (.cells #[.int .i64 W, .int .i64 H, .slice A L.length c] 46)).alloc (.cells #[.int .i64 W, .int .i64 H, .slice A' L.length c'] 46)) :=
    ((Below.refl _ _).alloc (Nat.le_refl _) _).alloc (by simp) _
  refine (eqSquareS_same A A' _ c c' L _ rfl hn hc hc' ((hL.below hb0).mono hb0.size) ((hL'.below hb0).mono hb0.size)).mono ?_
  rintro e w3 ⟨rfl, hb⟩
  have hb1 := hb0.trans (hb.mono hb0.size)
  go_wp2_with fail
  go_ret
  exact ⟨rfl, hb1⟩
end Go.Proofs.Ytebnekicbcdnaaa
