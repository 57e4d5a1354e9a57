/- SidesOfWord: the program's and the model's. -/
import Derived.Test.YtlfikjjdhmaemaaWrd
set_option linter.all false
namespace Go.Proofs.Ytlfikjjdhmaemaa
open Go.RowKit

def SidOk (s : ByteArray) : Prop := WordG (wcs s) ∧ ∀ q ∈ putQ s, q.d ≤ 1000
noncomputable def sidL (s : ByteArray) : List Int := if dc (SidOk s) then sides (putQ s) else []
theorem sidL_yes {s : ByteArray} (h : SidOk s) : sidL s = sides (putQ s) := by simp [sidL, dc_true h]
theorem sidL_no {s : ByteArray} (h : ¬ SidOk s) : sidL s = [] := by simp [sidL, dc_false h]
theorem putQ_bnd {s : ByteArray} (h : WordG (wcs s)) : (1 ≤ (putQ s).length ∧ (putQ s).length ≤ 21) ∧ ∀ q ∈ putQ s, (0 ≤ q.x ∧ q.x ≤ 1048576) ∧ (0 ≤ q.y ∧ q.y ≤ 1048576) ∧ 1 ≤ q.d ∧ q.d ≤ 1048576 := by
  have e := (put_yes h).2.2
  rw [e, putF_length]
  have := h.1
  exact ⟨by omega, (putF_bnd h.1).2.2⟩
theorem le_take_succ {Q : List Sq} {k : Nat} {q : Sq} (h : Q[k]? = some q) (hq : q.d ≤ 1000) (ha : ∀ p ∈ Q.take k, p.d ≤ 1000) : ∀ p ∈ Q.take (k + 1), p.d ≤ 1000 := by
  intro p hp
  rw [List.take_add_one, h] at hp
  simp only [Option.toList_some, List.mem_append, List.mem_singleton] at hp
  rcases hp with hp | rfl
  · exact ha p hp
  · exact hq

end Go.Proofs.Ytlfikjjdhmaemaa
