/- The cut of a code: plain facts, and the program's CutOfCode. -/
import Derived.Test.YtfkifcjjkaenhaaGreatDoorCat
import Derived.Test.YtfkifcjjkaenhaaGreatDoorFillI
import Derived.Test.YtfkifcjjkaenhaaGreatDoorCodeI
set_option linter.all false
namespace Go.Proofs.YtfkifcjjkaenhaaGreatDoor
open Go.RowKit

def wsum (l : List Int) : Int := l.foldl (fun a b => wrap64 (a + b)) 0
theorem wsum_succ (l : List Int) (k : Nat) (s : Int) (h : l[k]? = some s) : wsum (l.take (k + 1)) = wrap64 (wsum (l.take k) + s) := by
  unfold wsum
  rw [List.take_add_one, h, List.foldl_append]
  rfl
/-- The width, the height, the squares of the cut with this code, and whether there is one. -/
noncomputable def codeR (M : List (List Int)) : Int × Int × List Sq × Bool :=
  if (fillR (wsum (M.headD [])) M.flatten).2.2 && dc (glists (grps (fillR (wsum (M.headD [])) M.flatten).2.1) = M) then (wsum (M.headD []), (fillR (wsum (M.headD [])) M.flatten).1, (fillR (wsum (M.headD [])) M.flatten).2.1, true) else (0, 0, [], false)
theorem codeR_not {M : List (List Int)} (h : (fillR (wsum (M.headD [])) M.flatten).2.2 = false) : codeR M = (0, 0, [], false) := by
  unfold codeR; rw [h]; rfl
theorem codeR_ne {M : List (List Int)} (h : glists (grps (fillR (wsum (M.headD [])) M.flatten).2.1) ≠ M) : codeR M = (0, 0, [], false) := by
  unfold codeR; rw [dc_false h, Bool.and_false]; rfl
theorem codeR_yes {M : List (List Int)} (h : (fillR (wsum (M.headD [])) M.flatten).2.2 = true) (h2 : glists (grps (fillR (wsum (M.headD [])) M.flatten).2.1) = M) :
    codeR M = (wsum (M.headD []), (fillR (wsum (M.headD [])) M.flatten).1, (fillR (wsum (M.headD [])) M.flatten).2.1, true) := by
  unfold codeR; rw [h, dc_true h2]; rfl
theorem fillR_good {W : Int} {d : List Int} (h : (fillR W d).2.2 = true) : Good W (fillR W d).1 (fillR W d).2.1 := by
  unfold fillR at h ⊢
  cases hr : runF W.toNat d (st0 W.toNat) with
  | none => rw [hr] at h; simp at h
  | some st =>
    obtain ⟨f, L⟩ := st
    rw [hr] at h
    by_cases hG : Good W (f.headD 0) L
    · simp only
      rw [if_pos hG]
      exact hG
    · simp only at h
      rw [if_neg hG] at h
      simp at h
theorem flat_mem_le {M : List (List Int)} {l : List Int} (h : l ∈ M) : l.length ≤ M.flatten.length := by
  induction M with
  | nil => simp at h
  | cons a r ih =>
    rw [List.flatten_cons, List.length_append]
    rcases List.mem_cons.1 h with rfl | h
    · omega
    · have := ih h; omega
theorem flat_bd {M : List (List Int)} (h : ∀ l ∈ M, l.length ≤ 30) : M.flatten.length ≤ 30 * M.length := by
  induction M with
  | nil => simp
  | cons a r ih =>
    have h1 := ih fun l hl => h l (List.mem_cons_of_mem _ hl)
    have h2 := h a List.mem_cons_self
    rw [List.flatten_cons, List.length_append, List.length_cons]
    omega
theorem codeR_bad {M : List (List Int)} (h : ¬ ((1 ≤ M.length ∧ M.length ≤ 30) ∧ M.flatten.length ≤ 30 ∧ ∀ l ∈ M, (1 ≤ l.length ∧ l.length ≤ 30) ∧ ∀ s ∈ l, 1 ≤ s ∧ s ≤ 500)) : codeR M = (0, 0, [], false) := by
  cases hk : (fillR (wsum (M.headD [])) M.flatten).2.2 with
  | false => exact codeR_not hk
  | true =>
    refine codeR_ne fun e => h ?_
    have hb : (1 ≤ M.flatten.length ∧ M.flatten.length ≤ 30) ∧ ∀ s ∈ M.flatten, 1 ≤ s ∧ s ≤ 500 := by
      apply Classical.byContradiction
      intro hn
      have := fillR_pre (W := wsum (M.headD [])) (d := M.flatten) fun h' => hn h'.2
      rw [this] at hk
      cases hk
    have hG := fillR_good hk
    obtain ⟨L, hL⟩ : ∃ L, (fillR (wsum (M.headD [])) M.flatten).2.1 = L := ⟨_, rfl⟩
    rw [hL] at e hG
    have hl := (grps_bd L L.length).1
    rw [List.take_of_length_le (Nat.le_refl _)] at hl
    have e2 := congrArg List.length e
    simp only [glists, List.length_map] at e2
    have h30 := hG.2.2.1.2
    have h0 : 1 ≤ M.length := by
      cases M with
      | nil => simp at hb
      | cons a r => simp
    refine ⟨⟨h0, by omega⟩, hb.1.2, fun l hm => ⟨⟨?_, Nat.le_trans (flat_mem_le hm) hb.1.2⟩, fun s hs => hb.2 s (List.mem_flatten.2 ⟨l, hm, hs⟩)⟩⟩
    rw [← e] at hm
    obtain ⟨g, hg, rfl⟩ := List.mem_map.1 hm
    have := grps_ne L L.length
    rw [List.take_of_length_le (Nat.le_refl _)] at this
    have := this g hg
    cases hg2 : g.2 with
    | nil => exact absurd hg2 this
    | cons a r => simp
def RetCode (w : World) (M : List (List Int)) (e : Ending) (w' : World) : Prop := RetCut w (codeR M).1 (codeR M).2.1 (codeR M).2.2.1 (codeR M).2.2.2 e w'
theorem RetCode.no {w w' : World} {M : List (List Int)} (h : codeR M = (0, 0, [], false)) (hb : Below w.heap.size w w') : RetCode w M (.returned (.tuple #[.agg #[.int .i64 0, .int .i64 0, .slice none 0 0], .bool false])) w' := by
  unfold RetCode
  rw [h]
  exact RetCut.none_ hb
theorem RetCode.yes {w w' : World} {M : List (List Int)} {W H : Int} {L : List Sq} {A : Option Addr} {n c : Nat} (h : codeR M = (W, H, L, true)) (hn : n = L.length) (ho : w'.ownsRow w.heap.size 71 3 (.slice A n c) n (flat L)) (hb : Below w.heap.size w w') :
    RetCode w M (.returned (.tuple #[.agg #[.int .i64 W, .int .i64 H, .slice A n c], .bool true])) w' := by
  unfold RetCode
  rw [h]
  exact RetCut.mk hn ho hb

end Go.Proofs.YtfkifcjjkaenhaaGreatDoor
