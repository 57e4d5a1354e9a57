/- The width and the height of a code's cut. -/
import Derived.Test.YtmjdmedlkcmgiaaCodeT
set_option linter.all false
namespace Go.Proofs.Ytmjdmedlkcmgiaa
open Go.RowKit

set_option maxRecDepth 100000 in
set_option maxHeartbeats 2000000 in
theorem implWidth_any (A : Option Addr) (n c : Nat) (M : List (List Int)) (X Y : Int) (R : List Sq) (ok : Bool) (w : World) (hl : M.length = n) (hn : n ≤ 1048576) (hM : RowsZ w w.heap.size A M) (hwf : ∀ l ∈ M, ∀ s ∈ l, wfI s) (hX : (codeR M).1 = X) (hY : (codeR M).2.1 = Y) (hR : (codeR M).2.2.1 = R) (hK : (codeR M).2.2.2 = ok) :
    Calls Try.prog 44 #[.slice A n c] w fun e w' => e = .returned (.tuple #[.int .i64 X, .int .i64 Y, .bool ok]) ∧ Below w.heap.size w w' := by
  subst hl
  have hc := (implCutCode_any A _ c M w rfl hn hM hwf)
  unfold RetCode at hc
  rw [hX, hY, hR, hK] at hc
  have HC := Lib.hid hc
  have HS := Lib.hid (code_split hX hY hR hK)
  clear hc hX hY hR hK hM hwf
  go_enter Try.func44, Try.ntmps44
  go_wp2_with fail
  refine HC.out.mono ?_
  rintro e w2 ⟨A2, c2, rfl, _, hb2⟩
  clear HC
  obtain ⟨w3, hw3⟩ : ∃ w3, w3 = w2.alloc (.cells #[.int .i64 X, .int .i64 Y, .slice A2 R.length c2] 31) := ⟨_, rfl⟩
  have x3 : Bx w2.heap.size w3 X Y A2 R.length c2 := by rw [hw3]; exact Bx.start _ _ _ _ _ _ _
  have hB3 : Below w.heap.size w w3 := by rw [hw3]; exact hb2.alloc hb2.size _
  obtain ⟨V, hV⟩ : ∃ V, w2.heap.size = V := ⟨_, rfl⟩
  rw [hV] at x3
  obtain ⟨hz3, y0, y1, y2⟩ := id x3
  go_wp2_with fail
  rw [← hw3]
  clear hw3
  go_region
  go_wp2_with fail
  refine bodyPost_ret (v := .tuple #[.int .i64 X, .int .i64 Y, .bool ok]) (by simp [results, Try.results44, go_sem]) rfl ?_
  exact ⟨rfl, hB3.drew⟩

set_option maxRecDepth 100000 in
set_option maxHeartbeats 2000000 in
theorem specWidth_any (A : Option Addr) (n c : Nat) (M : List (List Int)) (X Y : Int) (R : List Sq) (ok : Bool) (w : World) (hl : M.length = n) (hn : n ≤ 1048576) (hM : RowsZ w w.heap.size A M) (hX : (codeR M).1 = X) (hY : (codeR M).2.1 = Y) (hR : (codeR M).2.2.1 = R) (hK : (codeR M).2.2.2 = ok) :
    Calls Try.prog 43 #[.slice A n c] w fun e w' => e = .returned (.tuple #[.int .i64 X, .int .i64 Y, .bool ok]) ∧ Below w.heap.size w w' := by
  subst hl
  have hc := (bkCut_any A _ c M w rfl hn hM)
  unfold RetCode at hc
  rw [hX, hY, hR, hK] at hc
  have HC := Lib.hid hc
  have HS := Lib.hid (code_split hX hY hR hK)
  clear hc hX hY hR hK hM
  go_enter Try.func43, Try.ntmps43
  go_wp2_with fail
  refine HC.out.mono ?_
  rintro e w2 ⟨A2, c2, rfl, _, hb2⟩
  clear HC
  obtain ⟨w3, hw3⟩ : ∃ w3, w3 = w2.alloc (.cells #[.int .i64 X, .int .i64 Y, .slice A2 R.length c2] 31) := ⟨_, rfl⟩
  have x3 : Bx w2.heap.size w3 X Y A2 R.length c2 := by rw [hw3]; exact Bx.start _ _ _ _ _ _ _
  have hB3 : Below w.heap.size w w3 := by rw [hw3]; exact hb2.alloc hb2.size _
  obtain ⟨V, hV⟩ : ∃ V, w2.heap.size = V := ⟨_, rfl⟩
  rw [hV] at x3
  obtain ⟨hz3, y0, y1, y2⟩ := id x3
  cases ok
  · obtain ⟨rfl, rfl⟩ : X = 0 ∧ Y = 0 := by
      rcases HS.out with ⟨h, _⟩ | ⟨_, h1, h2, _⟩
      · cases h
      · exact ⟨h1, h2⟩
    go_wp2_with fail
    refine bodyPost_ret (v := .tuple #[.int .i64 0, .int .i64 0, .bool false]) (by simp [results, Try.results43, go_sem]) rfl ?_
    exact ⟨rfl, by rw [← hw3]; exact hB3⟩
  · go_wp2_with fail
    rw [← hw3]
    clear hw3
    go_region
    go_wp2_with fail
    refine bodyPost_ret (v := .tuple #[.int .i64 X, .int .i64 Y, .bool true]) (by simp [results, Try.results43, go_sem]) rfl ?_
    exact ⟨rfl, hB3.drew⟩
end Go.Proofs.Ytmjdmedlkcmgiaa
