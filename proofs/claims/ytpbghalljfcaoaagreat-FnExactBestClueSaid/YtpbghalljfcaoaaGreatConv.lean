/- Contracts of the conversions of the laws' types into the program's, and of comparing, marking and reading marks. -/
import Derived.Test.YtpbghalljfcaoaaGreatLeaf
set_option linter.all false
namespace Go.Proofs.YtpbghalljfcaoaaGreat
open Go.RowKit

theorem infoSq : (Tryz.prog.info? 87).map (fun i => (i.zero, i.size, i.bytes)) = some (some (.agg #[.int .i64 0, .int .i64 0, .int .i64 0]), 3, 24) := by kernel_rfl

/-- A slice of squares of the call's own that reads as L. -/
def OwnSqs (w w' : World) (L : List Sq) (e : Ending) : Prop := ∃ g, e = .returned (.slice (some ⟨g, 0, none⟩) L.length L.length) ∧ Below w.heap.size w w' ∧ w'.ownsRow w.heap.size 87 3 (.slice (some ⟨g, 0, none⟩) L.length L.length) L.length (flat L)

theorem eqSquareS_same (A A' : Option Addr) (n c c' : Nat) (L : List Sq) (w : World) (hl : L.length = n) (hn : n ≤ 1048576) (_hc : n ≤ c) (_hc' : n ≤ c') (hL : SqsAt w w.heap.size A L) (hL' : SqsAt w w.heap.size A' L) :
    Calls Tryz.prog 46 #[.slice A n c, .slice A' n c'] w fun e w' => e = .returned (.bool true) ∧ Below w.heap.size w w' := by
  go_enter Tryz.func46, Tryz.ntmps46
  go_wp2_with fail
  obtain ⟨g, hg⟩ : ∃ g, g = w.heap.size := ⟨_, rfl⟩
  rw [← hg] at hL hL'
  have hBg := Lib.hid hg
  clear hg
  go_loopw [5] (fun i wr => ∃ k : Nat, k ≤ n ∧ i = .int .i64 k ∧ Below g w wr) (fun i _ => n - (intOf i).toNat)
  case atStart => exact ⟨0, Nat.zero_le _, rfl, Below.refl _ _⟩
  case round =>
    obtain ⟨k, hk, rfl, hbr⟩ := hrel
    by_cases hlt : k < n
    · obtain ⟨s, hs⟩ : ∃ s, L[k]? = some s := ⟨_, List.getElem?_eq_getElem (by rw [hl]; exact hlt)⟩
      have hLw := hL.below hbr
      have hLw' := hL'.below hbr
      clear hL hL'
      obtain ⟨b, off, rfl, hb, c0, c1, c2⟩ := hLw k s hs
      obtain ⟨b', off', rfl, hb', d0, d1, d2⟩ := hLw' k s hs
      clear hLw hLw' hs hl
      have hsz : g ≤ wr.heap.size := by have := hbr.size; rw [hBg.out]; omega
      go_wp2_with fail
      have C0 : ∀ u : Later g wr, u.val.cell? ⟨b, off + k * 3, none⟩ = some (.int .i64 s.x) := fun u => (u.ok.cell (p := ⟨b, _, none⟩) hb).trans c0
      have C1 : ∀ u : Later g wr, u.val.cell? ⟨b, off + k * 3 + 1, none⟩ = some (.int .i64 s.y) := fun u => (u.ok.cell (p := ⟨b, _, none⟩) hb).trans c1
      have C2 : ∀ u : Later g wr, u.val.cell? ⟨b, off + k * 3 + 2, none⟩ = some (.int .i64 s.d) := fun u => (u.ok.cell (p := ⟨b, _, none⟩) hb).trans c2
      have D0 : ∀ u : Later g wr, u.val.cell? ⟨b', off' + k * 3, none⟩ = some (.int .i64 s.x) := fun u => (u.ok.cell (p := ⟨b', _, none⟩) hb').trans d0
      have D1 : ∀ u : Later g wr, u.val.cell? ⟨b', off' + k * 3 + 1, none⟩ = some (.int .i64 s.y) := fun u => (u.ok.cell (p := ⟨b', _, none⟩) hb').trans d1
      have D2 : ∀ u : Later g wr, u.val.cell? ⟨b', off' + k * 3 + 2, none⟩ = some (.int .i64 s.d) := fun u => (u.ok.cell (p := ⟨b', _, none⟩) hb').trans d2
      have k0 : (0 : Int) ≤ (k : Int) := by omega
      have k1 : (k : Int) < (n : Int) := by omega
      refine wp_region_sub g (by kernel_rfl) (by kernel_rfl) ?_
      repeat (first | go_big_quiet_step ((go_at_call 63; exact sub_of _ hsz (eqSquare_same s.x s.y s.d _))) | quiet_step ((go_at_call 63; exact sub_of _ hsz (eqSquare_same s.x s.y s.d _))))
      refine wpQuiet_nil ?_
      rintro _ ⟨⟨w2, hb2⟩, rfl⟩
      go_wp2_with fail
      go_roundw
      case rel => exact ⟨k + 1, by omega, by go_num, hbr.trans hb2⟩
      case measure => simp [intOf]; omega
    · go_wp2_with fail
      go_ret
      exact ⟨rfl, by rw [← hBg.out]; exact hbr⟩
end Go.Proofs.YtpbghalljfcaoaaGreat
