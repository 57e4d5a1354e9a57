/- Contracts of SquaresBeside, the program's and the model's. -/
import Derived.Test.YtnnhgblgbbfmpaaSides
set_option linter.all false
namespace Go.Proofs.Ytnnhgblgbbfmpaa
open Go.RowKit

def mnI (a b : Int) : Int := if a < b then a else b
def mxI (a b : Int) : Int := if a > b then a else b
def Bes (s q : Sq) : Prop := (lapX s.x s.d q.x q.d = 0 ∧ 0 < lapX s.y s.d q.y q.d) ∨ (lapX s.y s.d q.y q.d = 0 ∧ 0 < lapX s.x s.d q.x q.d)

/-- The squares beside q among the first m. -/
noncomputable def besU (q : Sq) (L : List Sq) : Nat → List Int
  | 0 => []
  | m + 1 => besU q L m ++ (match L[m]? with | some s => if dc (Bes s q) then [(m : Int)] else [] | none => [])
theorem besU_yes {q s : Sq} {L : List Sq} {m : Nat} (h : L[m]? = some s) (hb : Bes s q) : besU q L (m + 1) = besU q L m ++ [(m : Int)] := by simp [besU, h, dc_true hb]
theorem besU_no {q s : Sq} {L : List Sq} {m : Nat} (h : L[m]? = some s) (hb : ¬ Bes s q) : besU q L (m + 1) = besU q L m := by simp [besU, h, dc_false hb]
theorem besU_len (q : Sq) (L : List Sq) (m : Nat) : (besU q L m).length ≤ m := by
  induction m with
  | zero => simp [besU]
  | succ m ih =>
    simp only [besU, List.length_append]
    split
    · split <;> simp <;> omega
    · simp; omega
def BesIn (W H : Int) (L : List Sq) (kk : Int) : Prop := Good W H L ∧ 0 ≤ kk ∧ kk < L.length
noncomputable def besR (W H : Int) (L : List Sq) (kk : Int) : List Int := if dc (BesIn W H L kk) then besU (L.getD kk.toNat ⟨0, 0, 0⟩) L L.length else []
theorem besR_yes {W H : Int} {L : List Sq} {K : Nat} {q : Sq} (h : BesIn W H L K) (hq : L[K]? = some q) : besR W H L K = besU q L L.length := by
  simp [besR, dc_true h, hq]
theorem besR_no {W H : Int} {L : List Sq} {kk : Int} (h : ¬ BesIn W H L kk) : besR W H L kk = [] := by simp [besR, dc_false h]
theorem besR_len (W H : Int) (L : List Sq) (kk : Int) : (besR W H L kk).length ≤ L.length := by
  unfold besR; split
  · exact besU_len _ _ _
  · simp

end Go.Proofs.Ytnnhgblgbbfmpaa
