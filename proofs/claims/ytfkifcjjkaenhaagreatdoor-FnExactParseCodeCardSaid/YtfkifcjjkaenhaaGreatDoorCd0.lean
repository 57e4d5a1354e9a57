/- Texts of codes: plain, and the model's text. -/
import Derived.Test.YtfkifcjjkaenhaaGreatDoorCodeM
import Derived.Test.YtfkifcjjkaenhaaGreatDoorNt
set_option linter.all false
namespace Go.Proofs.YtfkifcjjkaenhaaGreatDoor
open Go.RowKit

def dcs (g : List Int) : List (List UInt8) := g.map fun r => dec r.toNat
/-- A group's text. -/
def grt (g : List Int) : List UInt8 := 40 :: (Lib.join (dcs g) [44] ++ [41])
/-- A code's text. -/
def cdt (M : List (List Int)) : List UInt8 := (M.map grt).flatten
def Sm (g : List Int) : Prop := g.length ≤ 30 ∧ ∀ s ∈ g, 0 ≤ s ∧ s ≤ 1000
theorem join_snocD (xs : List (List UInt8)) (y sep : List UInt8) : Lib.join (xs ++ [y]) sep = if xs = [] then y else Lib.join xs sep ++ sep ++ y := by
  cases xs with
  | nil => simp [Lib.join_one]
  | cons x r =>
    rw [if_neg (by simp), List.cons_append, Lib.join_cons, Lib.join_cons]
    simp [Lib.joinTail]
theorem dcs_len {g : List Int} (h : Sm g) (j : Nat) : (Lib.join (dcs (g.take j)) [44]).length ≤ 200 := by
  have c := join_le (dcs (g.take j)) [44] 4 (fun x hx => by
    obtain ⟨s, hs, rfl⟩ := List.mem_map.1 hx
    have := h.2 s (List.mem_of_mem_take hs)
    exact dec_len s.toNat 3 (by omega))
  have h2 : (g.take j).length ≤ 30 := by rw [List.length_take]; have := h.1; omega
  simp only [dcs, List.length_map, List.length_cons, List.length_nil] at c ⊢
  omega
theorem grt_len {g : List Int} (h : Sm g) : (grt g).length ≤ 210 := by
  have c := dcs_len h g.length
  rw [List.take_of_length_le (Nat.le_refl _)] at c
  simp only [grt, List.length_cons, List.length_append, List.length_nil]; omega
theorem cdt_len : ∀ {M : List (List Int)}, (∀ l ∈ M, Sm l) → (cdt M).length ≤ 210 * M.length
  | [], _ => by simp [cdt]
  | g :: M, h => by
    have h1 := grt_len (h g (by simp))
    have h2 := cdt_len (M := M) fun l hl => h l (List.mem_cons_of_mem _ hl)
    simp only [cdt, List.map_cons, List.flatten_cons, List.length_append, List.length_cons] at h2 ⊢
    omega
theorem cdt_succ (M : List (List Int)) (k : Nat) (g : List Int) (h : M[k]? = some g) : cdt (M.take (k + 1)) = cdt (M.take k) ++ grt g := by
  obtain ⟨hk, e⟩ := List.getElem?_eq_some_iff.1 h
  rw [List.take_succ_eq_append_getElem hk, e]; simp [cdt]
theorem dcs_first (g : List Int) (u : Int) (h : g[0]? = some u) : Lib.join (dcs (g.take 1)) [44] = dec u.toNat := by
  obtain ⟨hk, e⟩ := List.getElem?_eq_some_iff.1 h
  rw [List.take_succ_eq_append_getElem hk, e]; simp [dcs, Lib.join_one]
theorem dcs_succ (g : List Int) (j : Nat) (u : Int) (h : g[j]? = some u) (hj : 0 < j) : Lib.join (dcs (g.take (j + 1))) [44] = Lib.join (dcs (g.take j)) [44] ++ 44 :: dec u.toNat := by
  obtain ⟨hk, e⟩ := List.getElem?_eq_some_iff.1 h
  rw [List.take_succ_eq_append_getElem hk, e]
  simp only [dcs, List.map_append, List.map_cons, List.map_nil, join_snocD]
  rw [if_neg]
  · simp
  · intro hh
    have h1 : (g.take j).length = 0 := by rw [← List.length_map (f := fun r : Int => dec r.toNat), hh]; rfl
    rw [List.length_take] at h1; omega
theorem str40 : (⟨#[40]⟩ : ByteArray) = bas [40] := rfl
theorem str41 : (⟨#[41]⟩ : ByteArray) = bas [41] := rfl
theorem str44c : (⟨#[44]⟩ : ByteArray) = bas [44] := rfl
end Go.Proofs.YtfkifcjjkaenhaaGreatDoor
