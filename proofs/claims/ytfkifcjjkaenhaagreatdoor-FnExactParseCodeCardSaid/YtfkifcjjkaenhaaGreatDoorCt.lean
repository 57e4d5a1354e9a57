/- CutText: both sides. -/
import Derived.Test.YtfkifcjjkaenhaaGreatDoorNt
set_option linter.all false
namespace Go.Proofs.YtfkifcjjkaenhaaGreatDoor
open Go.RowKit

theorem good_sm {W H : Int} {L : List Sq} (h : Good W H L) : ∀ s ∈ L, SmS s := fun s hs => by
  obtain ⟨hW, hH, _, hok, _⟩ := h
  obtain ⟨j, hj⟩ := List.mem_iff_getElem?.1 hs
  have := hok j s hj
  simp only [OkS, Within, SmS] at *
  omega
/-- A square's numbers. -/
def sqt (s : Sq) : List UInt8 := dec s.x.toNat ++ 44 :: (dec s.y.toNat ++ 44 :: dec s.d.toNat)
theorem txQ_sqt (s : Sq) : txQ s = 59 :: sqt s := rfl
theorem join_ct (a : List UInt8) (L : List Sq) : Lib.join (a :: L.map sqt) [59] = a ++ (L.map txQ).flatten := by
  rw [Lib.join_cons]; unfold Lib.joinTail; rw [List.map_map]; rfl
theorem join2 (a b m : List UInt8) : Lib.join [a, b] m = a ++ m ++ b := by rw [Lib.join_cons]; simp [Lib.joinTail]
theorem join3 (a b c m : List UInt8) : Lib.join [a, b, c] m = a ++ m ++ b ++ m ++ c := by rw [Lib.join_cons]; simp [Lib.joinTail]
/-- What CutText returns. -/
noncomputable def ctV (W H : Int) (L : List Sq) : List UInt8 := if dc (Good W H L) then txC W.toNat H.toNat L else []
theorem ctV_yes {W H : Int} {L : List Sq} (h : Good W H L) : ctV W H L = txC W.toNat H.toNat L := by unfold ctV; rw [dc_true h]; rfl
theorem ctV_no {W H : Int} {L : List Sq} (h : ¬ Good W H L) : ctV W H L = [] := by unfold ctV; rw [dc_false h]; rfl
theorem m120 : (⟨#[120]⟩ : ByteArray).data.toList = [120] := rfl
theorem m44 : (⟨#[44]⟩ : ByteArray).data.toList = [44] := rfl
theorem m59 : (⟨#[59]⟩ : ByteArray).data.toList = [59] := rfl
def RetTx (w : World) (l : List UInt8) (ok : Bool) (e : Ending) (w' : World) : Prop := e = .returned (.tuple #[.string (bas l), .bool ok]) ∧ Below w.heap.size w w'
theorem own_one (w : World) (v : Value) (t : TypeId) : (w.alloc (.cells #[v] t)).ownsRow w.heap.size t 1 (.slice (some ⟨w.heap.size, 0, none⟩) 1 1) 1 [v] :=
  World.ownsRow_lit w #[v] 1 (Nat.le_refl _) (by unfold maxLen; omega) rfl
theorem ints_two (w : World) (x y : Int) (t : TypeId) : IntsAt (w.alloc (.cells #[.int .i64 x, .int .i64 y] t)) (w.alloc (.cells #[.int .i64 x, .int .i64 y] t)).heap.size (some ⟨w.heap.size, 0, none⟩) [x, y] := by
  intro i u hu
  match i, hu with
  | 0, hu => simp at hu; subst hu; exact ⟨_, _, rfl, by simp, by simp⟩
  | 1, hu => simp at hu; subst hu; exact ⟨_, _, rfl, by simp, by simp⟩
theorem ints_three (w : World) (b : Nat) (hb : w.heap.size = b) (x y z : Int) (t : TypeId) : IntsAt (w.alloc (.cells #[.int .i64 x, .int .i64 y, .int .i64 z] t)) (w.alloc (.cells #[.int .i64 x, .int .i64 y, .int .i64 z] t)).heap.size (some ⟨b, 0, none⟩) [x, y, z] := by
  subst hb
  intro i u hu
  match i, hu with
  | 0, hu => simp at hu; subst hu; exact ⟨_, _, rfl, by simp, by simp⟩
  | 1, hu => simp at hu; subst hu; exact ⟨_, _, rfl, by simp, by simp⟩
  | 2, hu => simp at hu; subst hu; exact ⟨_, _, rfl, by simp, by simp⟩
/-- Texts in memory. -/
def txs (R : List (List UInt8)) : List Value := R.map fun l => .string (bas l)
theorem txs_app (R S : List (List UInt8)) : txs (R ++ S) = txs R ++ txs S := by simp [txs]
theorem fld_len {W H : Int} {L : List Sq} (hG : Good W H L) : ∀ l ∈ (dec W.toNat ++ 120 :: dec H.toNat) :: L.map sqt, l.length ≤ 20 := by
  have hs := good_sm hG
  obtain ⟨hW, hH, _⟩ := hG
  intro l hl
  rcases List.mem_cons.1 hl with rfl | hl
  · have a := dec_6 (n := W.toNat) (by omega)
    have b := dec_6 (n := H.toNat) (by omega)
    simp; omega
  · obtain ⟨s, hsm, rfl⟩ := List.mem_map.1 hl
    have := txQ_len (hs s hsm)
    rw [txQ_sqt] at this; simp at this; omega
end Go.Proofs.YtfkifcjjkaenhaaGreatDoor
