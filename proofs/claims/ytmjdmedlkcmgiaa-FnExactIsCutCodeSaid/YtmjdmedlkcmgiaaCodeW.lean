/- What is told of the cut of a code: whether there is one, its width and height, its order. -/
import Derived.Test.YtmjdmedlkcmgiaaSSArg
set_option linter.all false
namespace Go.Proofs.Ytmjdmedlkcmgiaa
open Go.RowKit

theorem codeR_zero {M : List (List Int)} (h : (codeR M).2.2.2 = false) : codeR M = (0, 0, [], false) := by
  unfold codeR at h ⊢
  split at h
  · cases h
  · next h2 => rw [if_neg h2]

set_option maxRecDepth 100000 in
set_option maxHeartbeats 2000000 in
theorem implIsCutCode_any (A : Option Addr) (n c : Nat) (M : List (List Int)) (X Y : Int) (R : List Sq) (ok : Bool) (w : World) (hl : M.length = n) (hn : n ≤ 1048576) (hM : RowsZ w w.heap.size A M) (hwf : ∀ l ∈ M, ∀ s ∈ l, wfI s) (hX : (codeR M).1 = X) (hY : (codeR M).2.1 = Y) (hR : (codeR M).2.2.1 = R) (hK : (codeR M).2.2.2 = ok) :
    Calls Try.prog 35 #[.slice A n c] w fun e w' => e = .returned (.bool ok) ∧ Below w.heap.size w w' := by
  subst hl
  have hc := (implCutCode_any A _ c M w rfl hn hM hwf)
  unfold RetCode at hc
  rw [hX, hY, hR, hK] at hc
  have HC := Lib.hid hc
  have hz : ok = false → X = 0 ∧ Y = 0 ∧ R = [] := fun e => by
    subst e
    have := codeR_zero hK
    rw [← hX, ← hY, ← hR, this]
    exact ⟨rfl, rfl, rfl⟩
  have HZ := Lib.hid hz
  clear hc hX hY hR hK hM hz hwf
  go_enter Try.func35, Try.ntmps35
  go_wp2_with fail
  refine HC.out.mono ?_
  rintro e w2 ⟨A2, c2, rfl, _, hb2⟩
  clear HC
  clear HZ
  go_wp2_with fail
  go_ret
  exact ⟨rfl, hb2.alloc hb2.size _⟩

set_option maxRecDepth 100000 in
set_option maxHeartbeats 2000000 in
theorem specIsCutCode_any (A : Option Addr) (n c : Nat) (M : List (List Int)) (X Y : Int) (R : List Sq) (ok : Bool) (w : World) (hl : M.length = n) (hn : n ≤ 1048576) (hM : RowsZ w w.heap.size A M) (hX : (codeR M).1 = X) (hY : (codeR M).2.1 = Y) (hR : (codeR M).2.2.1 = R) (hK : (codeR M).2.2.2 = ok) :
    Calls Try.prog 34 #[.slice A n c] w fun e w' => e = .returned (.bool ok) ∧ Below w.heap.size w w' := by
  subst hl
  have hc := (bkCut_any A _ c M w rfl hn hM)
  unfold RetCode at hc
  rw [hX, hY, hR, hK] at hc
  have HC := Lib.hid hc
  have hz : ok = false → X = 0 ∧ Y = 0 ∧ R = [] := fun e => by
    subst e
    have := codeR_zero hK
    rw [← hX, ← hY, ← hR, this]
    exact ⟨rfl, rfl, rfl⟩
  have HZ := Lib.hid hz
  clear hc hX hY hR hK hM hz
  go_enter Try.func34, Try.ntmps34
  go_wp2_with fail
  refine HC.out.mono ?_
  rintro e w2 ⟨A2, c2, rfl, _, hb2⟩
  clear HC
  clear HZ
  go_wp2_with fail
  go_ret
  exact ⟨rfl, hb2.alloc hb2.size _⟩

set_option maxRecDepth 100000 in
set_option maxHeartbeats 2000000 in
theorem implOrderOfCode_any (A : Option Addr) (n c : Nat) (M : List (List Int)) (X Y : Int) (R : List Sq) (ok : Bool) (w : World) (hl : M.length = n) (hn : n ≤ 1048576) (hM : RowsZ w w.heap.size A M) (hwf : ∀ l ∈ M, ∀ s ∈ l, wfI s) (hX : (codeR M).1 = X) (hY : (codeR M).2.1 = Y) (hR : (codeR M).2.2.1 = R) (hK : (codeR M).2.2.2 = ok) :
    Calls Try.prog 37 #[.slice A n c] w fun e w' => e = .returned (.tuple #[.int .i64 (R.length : Int), .bool ok]) ∧ Below w.heap.size w w' := by
  subst hl
  have hc := (implCutCode_any A _ c M w rfl hn hM hwf)
  unfold RetCode at hc
  rw [hX, hY, hR, hK] at hc
  have HC := Lib.hid hc
  have hz : ok = false → X = 0 ∧ Y = 0 ∧ R = [] := fun e => by
    subst e
    have := codeR_zero hK
    rw [← hX, ← hY, ← hR, this]
    exact ⟨rfl, rfl, rfl⟩
  have HZ := Lib.hid hz
  clear hc hX hY hR hK hM hz hwf
  go_enter Try.func37, Try.ntmps37
  go_wp2_with fail
  refine HC.out.mono ?_
  rintro e w2 ⟨A2, c2, rfl, _, hb2⟩
  clear HC
  clear HZ
  go_wp2_with fail
  go_ret2
  exact ⟨rfl, hb2.alloc hb2.size _⟩

set_option maxRecDepth 100000 in
set_option maxHeartbeats 2000000 in
theorem specOrderOfCode_any (A : Option Addr) (n c : Nat) (M : List (List Int)) (X Y : Int) (R : List Sq) (ok : Bool) (w : World) (hl : M.length = n) (hn : n ≤ 1048576) (hM : RowsZ w w.heap.size A M) (hX : (codeR M).1 = X) (hY : (codeR M).2.1 = Y) (hR : (codeR M).2.2.1 = R) (hK : (codeR M).2.2.2 = ok) :
    Calls Try.prog 36 #[.slice A n c] w fun e w' => e = .returned (.tuple #[.int .i64 (R.length : Int), .bool ok]) ∧ Below w.heap.size w w' := by
  subst hl
  have hc := (bkCut_any A _ c M w rfl hn hM)
  unfold RetCode at hc
  rw [hX, hY, hR, hK] at hc
  have HC := Lib.hid hc
  have hz : ok = false → X = 0 ∧ Y = 0 ∧ R = [] := fun e => by
    subst e
    have := codeR_zero hK
    rw [← hX, ← hY, ← hR, this]
    exact ⟨rfl, rfl, rfl⟩
  have HZ := Lib.hid hz
  clear hc hX hY hR hK hM hz
  go_enter Try.func36, Try.ntmps36
  go_wp2_with fail
  refine HC.out.mono ?_
  rintro e w2 ⟨A2, c2, rfl, _, hb2⟩
  clear HC
  cases ok
  · obtain ⟨rfl, rfl, rfl⟩ := HZ.out rfl
    go_wp2_with fail
    go_ret2
    exact ⟨rfl, hb2.alloc hb2.size _⟩
  · go_wp2_with fail
    go_ret2
    exact ⟨rfl, hb2.alloc hb2.size _⟩
end Go.Proofs.Ytmjdmedlkcmgiaa
