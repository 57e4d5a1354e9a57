/- Parts taken out of a cut: plain. -/
import Derived.Test.YtilneimiedfjnaaBesG
import Derived.Test.YtilneimiedfjnaaNums
set_option linter.all false
namespace Go.Proofs.Ytilneimiedfjnaa
open Go.RowKit

namespace J
/-- The number behind which the next one must come. -/
def lastK (K : List Int) : Nat → Int
  | 0 => -1
  | j + 1 => (K[j]?).getD 0
def RisTo (K : List Int) (m : Nat) (j : Nat) : Prop := ∀ i z, i < j → K[i]? = some z → lastK K i < z ∧ z < (m : Int)
theorem RisTo.zero (K : List Int) (m : Nat) : RisTo K m 0 := fun i z h => by omega
theorem lastK_succ {K : List Int} {j : Nat} {z : Int} (h : K[j]? = some z) : lastK K (j + 1) = z := by simp [lastK, h]
theorem RisTo.succ {K : List Int} {m j : Nat} {z : Int} (h : RisTo K m j) (hz : K[j]? = some z) (h1 : lastK K j < z) (h2 : z < (m : Int)) : RisTo K m (j + 1) := by
  intro i y hi hy
  by_cases e : i = j
  · subst e; rw [hz] at hy; cases hy; exact ⟨h1, h2⟩
  · exact h i y (by omega) hy
theorem RisTo.low {K : List Int} {m j : Nat} (h : RisTo K m j) (hj : j ≤ K.length) : -1 ≤ lastK K j := by
  induction j with
  | zero => simp [lastK]
  | succ j ih =>
    obtain ⟨z, hz⟩ : ∃ z, K[j]? = some z := ⟨_, List.getElem?_eq_getElem (by omega)⟩
    rw [lastK_succ hz]
    have := (h j z (by omega) hz).1
    have := ih (fun i y hi => h i y (by omega)) (by omega)
    omega
/-- As the model says it. -/
def RisS (K : List Int) (lo hi : Int) (j : Nat) : Prop := ∀ i z, i < j → K[i]? = some z → (lo ≤ z ∧ z ≤ hi) ∧ ∀ y, 0 < i → K[i - 1]? = some y → y < z
theorem ris_iff {K : List Int} {m : Nat} : RisS K 0 ((m : Int) - 1) K.length ↔ RisTo K m K.length := by
  constructor
  · intro h i z hi hz
    obtain ⟨⟨h1, h2⟩, h3⟩ := h i z hi hz
    refine ⟨?_, by omega⟩
    cases i with
    | zero => simp [lastK]; omega
    | succ i =>
      obtain ⟨y, hy⟩ : ∃ y, K[i]? = some y := ⟨_, List.getElem?_eq_getElem (by omega)⟩
      rw [lastK_succ hy]
      exact h3 y (by omega) (by simpa using hy)
  · intro h i z hi hz
    have h1 := h i z hi hz
    have hl := RisTo.low (j := i) (fun a y ha => h a y (by omega)) (by omega)
    refine ⟨by omega, fun y h0 hy => ?_⟩
    obtain ⟨k, rfl⟩ : ∃ k, i = k + 1 := ⟨i - 1, by omega⟩
    rw [show k + 1 - 1 = k from rfl] at hy
    rw [lastK_succ hy] at h1
    exact h1.1
/-- The squares with these numbers. -/
def selL (L : List Sq) (K : List Int) : List Sq := K.map fun z => L[z.toNat]!
theorem selL_len (L : List Sq) (K : List Int) : (selL L K).length = K.length := by simp [selL]
theorem selL_take_succ (L : List Sq) (K : List Int) (j q : Nat) (s : Sq) (h : K[j]? = some (q : Int)) (hs : L[q]? = some s) : selL L (K.take (j + 1)) = selL L (K.take j) ++ [s] := by
  rw [List.take_add_one, h]; simp [selL, hs]
theorem sel_at {L : List Sq} {K : List Int} {j : Nat} (h : RisTo K L.length K.length) (hj : j < K.length) : ∃ (q : Nat) (s : Sq), K[j]? = some (q : Int) ∧ L[q]? = some s ∧ (selL L K)[j]? = some s := by
  obtain ⟨z, hz⟩ : ∃ z, K[j]? = some z := ⟨_, List.getElem?_eq_getElem hj⟩
  have h1 := h j z hj hz
  have h2 := RisTo.low (j := j) (fun a y ha => h a y (by omega)) (by omega)
  obtain ⟨q, rfl⟩ : ∃ q : Nat, z = q := ⟨z.toNat, by omega⟩
  obtain ⟨s, hs⟩ : ∃ s, L[q]? = some s := ⟨_, List.getElem?_eq_getElem (by omega)⟩
  refine ⟨q, s, hz, hs, ?_⟩
  simp [selL, hz, hs]
theorem sel_mem {L : List Sq} {K : List Int} (h : RisTo K L.length K.length) : ∀ s ∈ selL L K, s ∈ L := by
  intro s hs
  obtain ⟨j, hj⟩ := List.mem_iff_getElem?.1 hs
  have hl := (List.getElem?_eq_some_iff.1 hj).1
  rw [selL_len] at hl
  obtain ⟨q, t, _, h2, h3⟩ := sel_at h hl
  rw [hj] at h3
  cases h3
  exact List.mem_of_getElem? h2
theorem sel_pair {L : List Sq} {K : List Int} (hp : L.Pairwise lt2) (h : RisTo K L.length K.length) : (selL L K).Pairwise lt2 := by
  refine pair_of_adj _ fun i s t hs ht => ?_
  have hi := (List.getElem?_eq_some_iff.1 ht).1
  rw [selL_len] at hi
  obtain ⟨q, s', h1, h2, h3⟩ := sel_at (j := i) h (by omega)
  obtain ⟨q', t', k1, k2, k3⟩ := sel_at (j := i + 1) h (by omega)
  rw [hs] at h3; cases h3
  rw [ht] at k3; cases k3
  have := (h (i + 1) q' hi k1).1
  rw [lastK_succ h1] at this
  rw [List.pairwise_iff_getElem] at hp
  obtain ⟨a1, a2⟩ := List.getElem?_eq_some_iff.1 h2
  obtain ⟨b1, b2⟩ := List.getElem?_eq_some_iff.1 k2
  have := hp q q' a1 b1 (by omega)
  rw [a2, b2] at this
  exact this
end J

def hdS (P : List Sq) : Sq := P.headD ⟨0, 0, 0⟩
/-- The part as it is when it stands alone. -/
noncomputable def tpM (P : List Sq) : Int × Int × List Sq × Bool :=
  Mk (J.mxF (fun s => s.x + s.d) (J.mvL (-(hdS P).x) (-(hdS P).y) P)) (J.mxF (fun s => s.y + s.d) (J.mvL (-(hdS P).x) (-(hdS P).y) P)) (J.mvL (-(hdS P).x) (-(hdS P).y) P)
noncomputable def tpT (W H : Int) (L : List Sq) (K : List Int) : Int × Int × List Sq × Bool :=
  if dc (Good W H L ∧ 0 < K.length ∧ J.RisTo K L.length K.length) then tpM (J.selL L K) else noT
theorem tpT_no {W H : Int} {L : List Sq} {K : List Int} (h : ¬ (Good W H L ∧ 0 < K.length ∧ J.RisTo K L.length K.length)) : tpT W H L K = noT := by simp [tpT, dc_false h]
theorem tpT_yes {W H : Int} {L : List Sq} {K : List Int} (h : Good W H L) (h1 : 0 < K.length) (h2 : J.RisTo K L.length K.length) : tpT W H L K = tpM (J.selL L K) := by simp [tpT, dc_true (And.intro h (And.intro h1 h2))]
theorem tpT_len (W H : Int) (L : List Sq) (K : List Int) : (tpT W H L K).2.2.1.length ≤ 30 := by
  unfold tpT; split
  · exact Mk_len _ _ _
  · simp [noT]
/-- The model tells places from the least of all X and Y. -/
theorem tpM_model {W H : Int} {L : List Sq} {K : List Int} (hG : Good W H L) (h1 : 0 < K.length) (h2 : J.RisTo K L.length K.length) :
    Mk (J.mxF (fun s => s.x + s.d) (J.selL L K) - J.mnF (·.x) (hdS (J.selL L K)).x (J.selL L K)) (J.mxF (fun s => s.y + s.d) (J.selL L K) - J.mnF (·.y) (hdS (J.selL L K)).y (J.selL L K)) (J.mvL (-(J.mnF (·.x) (hdS (J.selL L K)).x (J.selL L K))) (-(J.mnF (·.y) (hdS (J.selL L K)).y (J.selL L K))) (J.selL L K)) = tpM (J.selL L K) := by
  have hp := J.sel_pair (good_pair hG) h2
  have hm := J.sel_mem h2
  have hl : (J.selL L K).length = K.length := J.selL_len L K
  obtain ⟨P, hP⟩ : ∃ P, J.selL L K = P := ⟨_, rfl⟩
  rw [hP] at hp hm hl ⊢
  cases P with
  | nil => simp at hl; omega
  | cons f r =>
    have hb : ∀ s ∈ f :: r, 0 ≤ s.x ∧ 0 ≤ s.y ∧ 1 ≤ s.d := fun s hs => by have h := (good_fill hG).within s (hm s hs); unfold Within at h; omega
    rcases J.take_same hp hb with ⟨e1, e2, e3⟩ | ⟨e1, e2⟩
    · unfold tpM
      show Mk _ _ _ = Mk (J.mxF (fun s => s.x + s.d) (J.mvL (-f.x) (-f.y) (f :: r))) (J.mxF (fun s => s.y + s.d) (J.mvL (-f.x) (-f.y) (f :: r))) (J.mvL (-f.x) (-f.y) (f :: r))
      rw [← e1, ← e2, ← e3]; rfl
    · unfold tpM
      rw [show hdS (f :: r) = f from rfl, Mk_no (e1 _ _), Mk_no (e2 _ _)]

end Go.Proofs.Ytilneimiedfjnaa
