/- Words of squares: plain facts: the rectangle that a word makes, and its squares as they are put. -/
import Derived.Test.YtlfikjjdhmaemaaPlain
import Derived.Laws.RangeAny
import Derived.Lib.OthersKept
set_option linter.all false
namespace Go.Proofs.Ytlfikjjdhmaemaa
open Go.RowKit

/-- A word's state: the width, the height, the squares as they are put. -/
def putS (st : Int × Int × List Sq) (c : Nat) : Int × Int × List Sq :=
  if c = 98 then (st.1 + st.2.1, st.2.1, st.2.2 ++ [⟨st.1, 0, st.2.1⟩]) else (st.1, st.2.1 + st.1, st.2.2 ++ [⟨0, st.2.1, st.1⟩])
def putF (l : List Nat) : Int × Int × List Sq := l.foldl putS (1, 1, [⟨0, 0, 1⟩])
def WordG (l : List Nat) : Prop := l.length ≤ 20 ∧ ∀ c ∈ l, c = 98 ∨ c = 117
theorem putF_snoc (l : List Nat) (c : Nat) : putF (l ++ [c]) = putS (putF l) c := by simp [putF]
theorem putS_b {st : Int × Int × List Sq} {c : Nat} (h : c = 98) : putS st c = (st.1 + st.2.1, st.2.1, st.2.2 ++ [⟨st.1, 0, st.2.1⟩]) := if_pos h
theorem putS_u {st : Int × Int × List Sq} {c : Nat} (h : c ≠ 98) : putS st c = (st.1, st.2.1 + st.1, st.2.2 ++ [⟨0, st.2.1, st.1⟩]) := if_neg h
theorem putF_take {l : List Nat} {k : Nat} {c : Nat} (h : l[k]? = some c) : putF (l.take (k + 1)) = putS (putF (l.take k)) c := by
  rw [List.take_add_one, h]
  exact putF_snoc _ _
theorem putF_len (l : List Nat) : ∀ st : Int × Int × List Sq, (l.foldl putS st).2.2.length = st.2.2.length + l.length := by
  induction l with
  | nil => intro st; rfl
  | cons c r ih =>
    intro st
    rw [List.foldl_cons, ih, List.length_cons]
    unfold putS
    split <;> simp <;> omega
theorem putF_length (l : List Nat) : (putF l).2.2.length = l.length + 1 := by rw [putF, putF_len]; simp; omega
/-- How great a word's numbers are. -/
def Bnd (m : Int) (st : Int × Int × List Sq) : Prop := (1 ≤ st.1 ∧ st.1 ≤ m) ∧ (1 ≤ st.2.1 ∧ st.2.1 ≤ m) ∧ ∀ s ∈ st.2.2, (0 ≤ s.x ∧ s.x ≤ m) ∧ (0 ≤ s.y ∧ s.y ≤ m) ∧ 1 ≤ s.d ∧ s.d ≤ m
theorem putS_bnd {m : Int} {st : Int × Int × List Sq} (c : Nat) (h : Bnd m st) : Bnd (2 * m) (putS st c) := by
  obtain ⟨h1, h2, h3⟩ := h
  unfold putS
  split
  · refine ⟨⟨by simp; omega, by simp; omega⟩, ⟨by simp; omega, by simp; omega⟩, fun s hs => ?_⟩
    simp only [List.mem_append, List.mem_singleton] at hs
    rcases hs with hs | rfl
    · have := h3 s hs; omega
    · simp; omega
  · refine ⟨⟨by simp; omega, by simp; omega⟩, ⟨by simp; omega, by simp; omega⟩, fun s hs => ?_⟩
    simp only [List.mem_append, List.mem_singleton] at hs
    rcases hs with hs | rfl
    · have := h3 s hs; omega
    · simp; omega
theorem putL_bnd (l : List Nat) : ∀ (m : Int) (st : Int × Int × List Sq), Bnd m st → Bnd (2 ^ l.length * m) (l.foldl putS st) := by
  induction l with
  | nil => intro m st h; simpa using h
  | cons c r ih =>
    intro m st h
    rw [List.foldl_cons, List.length_cons]
    have := ih (2 * m) _ (putS_bnd c h)
    rw [show (2 : Int) ^ (r.length + 1) * m = 2 ^ r.length * (2 * m) by rw [Int.pow_succ]; rw [Int.mul_assoc]]
    exact this
theorem Bnd.mono {m m' : Int} {st : Int × Int × List Sq} (h : Bnd m st) (hm : m ≤ m') : Bnd m' st := by
  obtain ⟨h1, h2, h3⟩ := h
  exact ⟨by omega, by omega, fun s hs => by have := h3 s hs; omega⟩
theorem putF_bnd {l : List Nat} (h : l.length ≤ 20) : Bnd 1048576 (putF l) := by
  have h1 := putL_bnd l 1 (1, 1, [⟨0, 0, 1⟩]) ⟨by simp, by simp, fun s hs => by simp at hs; subst hs; simp⟩
  refine Bnd.mono h1 ?_
  rw [Int.mul_one]
  have h2 : (2 : Nat) ^ l.length ≤ 2 ^ 20 := Nat.pow_le_pow_right (by decide) h
  have h3 : (2 : Int) ^ l.length = ((2 ^ l.length : Nat) : Int) := by simp
  rw [h3]
  omega
theorem putF_take_bnd {l : List Nat} (h : l.length ≤ 20) (k : Nat) : Bnd 1048576 (putF (l.take k)) := putF_bnd (by rw [List.length_take]; omega)

def wcs (s : ByteArray) : List Nat := s.data.toList.map UInt8.toNat
theorem wcs_len (s : ByteArray) : (wcs s).length = s.size := by rw [wcs, List.length_map, Array.length_toList]; rfl
theorem wcs_get (s : ByteArray) (k : Nat) (h : k < s.size) : (wcs s)[k]? = some (s[k]'h).toNat := by
  have h' : k < s.data.toList.length := by rw [Array.length_toList]; exact h
  rw [wcs, List.getElem?_map, List.getElem?_eq_getElem h']
  rfl
theorem wcs_no {s : ByteArray} {k : Nat} (h : k < s.size) (h1 : (s[k]'h).toNat ≠ 98) (h2 : (s[k]'h).toNat ≠ 117) : ¬ WordG (wcs s) := fun hG => by
  have := hG.2 _ (List.mem_of_getElem? (wcs_get s k h))
  omega
theorem wcs_yes {s : ByteArray} (hs : s.size ≤ 20) (h : ∀ k, (hk : k < s.size) → (s[k]'hk).toNat = 98 ∨ (s[k]'hk).toNat = 117) : WordG (wcs s) := by
  refine ⟨by rw [wcs_len]; exact hs, fun c hc => ?_⟩
  obtain ⟨k, hk⟩ := List.mem_iff_getElem?.1 hc
  have hl : k < s.size := by
    have := (List.getElem?_eq_some_iff.1 hk).1
    rwa [wcs_len] at this
  rw [wcs_get s k hl] at hk
  obtain rfl := Option.some.inj hk
  exact h k hl
theorem wcs_size {s : ByteArray} (h : WordG (wcs s)) : s.size ≤ 20 := by have := h.1; rwa [wcs_len] at this
end Go.Proofs.Ytlfikjjdhmaemaa
