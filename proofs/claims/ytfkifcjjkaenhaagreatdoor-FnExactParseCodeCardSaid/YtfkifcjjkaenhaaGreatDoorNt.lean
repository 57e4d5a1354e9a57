/- Numbers with a mark between them: the program. -/
import Derived.Test.YtfkifcjjkaenhaaGreatDoorTxI
import Derived.Test.YtfkifcjjkaenhaaGreatDoorApp
import Derived.Test.YtfkifcjjkaenhaaGreatDoorShelf
import Derived.Lib.LaidTab
import Derived.Lib.Join
import Derived.Lib.AppendIntMem
set_option linter.all false
namespace Go.Proofs.YtfkifcjjkaenhaaGreatDoor
open Go.RowKit

theorem dec_eq (n : Nat) : Lib.decDigits n = dec n := by
  induction n using Nat.strongRecOn with
  | _ n ih =>
  by_cases h : n < 10
  · rw [dec_small h, Lib.decDigits, dif_pos h]; rfl
  · rw [dec_great h, Lib.decDigits, dif_neg h, ih _ (by omega)]; rfl
theorem itoa_eq (n : Nat) : Lib.itoa (n : Int) = dec n := by
  unfold Lib.itoa; rw [if_neg (by omega), dec_eq]; simp
theorem lens_le (m : Nat) : ∀ (xs : List (List UInt8)), (∀ x ∈ xs, x.length ≤ m) → Lib.lens xs ≤ m * xs.length
  | [], _ => by simp [Lib.lens]
  | x :: xs, h => by
    have h1 := h x (by simp)
    have h2 := lens_le m xs fun y hy => h y (by simp [hy])
    simp only [Lib.lens, List.length_cons, Nat.mul_succ, List.map_cons, List.sum_cons] at h2 ⊢; omega
theorem join_le (xs : List (List UInt8)) (sep : List UInt8) (m : Nat) (h : ∀ x ∈ xs, x.length ≤ m) : (Lib.join xs sep).length ≤ sep.length * xs.length + m * xs.length := by
  cases xs with
  | nil => simp [Lib.join]
  | cons x r =>
    rw [Lib.join_length]
    have h1 := lens_le m (x :: r) h
    have : sep.length * r.length ≤ sep.length * (x :: r).length := Nat.mul_le_mul_left _ (by simp)
    omega
/-- The library's table of powers is there. -/
def TabOk (w : World) : Prop := Lib.TabIs Tryz.prog w "internal/strconv.uint64pow10" .u64 Lib.pow10Tab
theorem TabOk.below {w w' : World} (h : TabOk w) (hb : Below w.heap.size w w') : TabOk w' := by
  unfold TabOk Lib.TabIs World.var? at h ⊢
  cases hg : Tryz.prog.globalNamed "internal/strconv.uint64pow10" with
  | none => rw [hg] at h; cases h
  | some g =>
    rw [hg] at h
    simp only [Option.bind_some] at h ⊢
    have hlt : g < w.heap.size := by
      by_cases hl : g < w.heap.size
      · exact hl
      · rw [Array.getElem?_eq_none (by omega)] at h; cases h
    rw [hb.block g hlt]; exact h
theorem infoStr : (Tryz.prog.info? 9).map (fun i => (i.zero, i.size, i.bytes)) = some (some (.string ⟨#[]⟩), 1, 16) := by kernel_rfl
def strs (R : List Int) : List Value := R.map fun r => .string (bas (dec r.toNat))
theorem itoa_any (r : Int) (hr : 0 ≤ r ∧ r ≤ 1000000) (w : World) (hT : TabOk w) : Calls Tryz.prog 26 #[.int .i64 r] w fun e w' => e = .returned (.string (bas (dec r.toNat))) ∧ Below w.heap.size w w' := by
  obtain ⟨n, rfl⟩ := Int.eq_ofNat_of_zero_le hr.1
  refine (Tryz.strconv_Itoa n (by omega) (by omega) w hT).mono ?_
  rintro e w' ⟨rfl, k, os, rfl⟩
  rw [itoa_eq]
  exact ⟨rfl, Lib.below_grow _ _ (Nat.le_refl _) _ _⟩
end Go.Proofs.YtfkifcjjkaenhaaGreatDoor
