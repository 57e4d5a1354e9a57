/- A square replaced by a cut: plain. -/
import Derived.Test.YtilneimiedfjnaaBesG
set_option linter.all false
namespace Go.Proofs.Ytilneimiedfjnaa
open Go.RowKit

/-- The squares of a cut in which one is replaced by another cut, both grown. -/
def rpL (m p : Int) (L : List Sq) (k : Nat) (s : Sq) (M : List Sq) : List Sq := (J.jL m 0 0 L).take k ++ (J.jL p (s.x * m) (s.y * m) M ++ (J.jL m 0 0 L).drop (k + 1))
noncomputable def repT (W H : Int) (L : List Sq) (k : Int) (V G : Int) (M : List Sq) : Int × Int × List Sq × Bool :=
  if dc (Good W H L ∧ Good V G M ∧ (0 ≤ k ∧ k < L.length) ∧ V = G) then
    Mk (W * (V / gd (L[k.toNat]!).d V)) (H * (V / gd (L[k.toNat]!).d V)) (rpL (V / gd (L[k.toNat]!).d V) ((L[k.toNat]!).d / gd (L[k.toNat]!).d V) L k.toNat (L[k.toNat]!) M) else noT
theorem repT_no {W H k V G : Int} {L M : List Sq} (h : ¬ (Good W H L ∧ Good V G M ∧ (0 ≤ k ∧ k < L.length) ∧ V = G)) : repT W H L k V G M = noT := by simp [repT, dc_false h]
theorem repT_yes {W H V G : Int} {k : Nat} {L M : List Sq} {s : Sq} (h : Good W H L) (h' : Good V G M) (hs : L[k]? = some s) (hv : V = G) :
    repT W H L k V G M = Mk (W * (V / gd s.d V)) (H * (V / gd s.d V)) (rpL (V / gd s.d V) (s.d / gd s.d V) L k s M) := by
  have hk := (List.getElem?_eq_some_iff.1 hs).1
  have e : L[(k : Int).toNat]! = s := by
    rw [show ((k : Int)).toNat = k by simp, List.getElem!_eq_getElem?_getD, hs]; rfl
  unfold repT
  rw [dc_true (And.intro h (And.intro h' (And.intro (And.intro (Int.natCast_nonneg k) (by omega)) hv))), if_pos rfl, e, show ((k : Int)).toNat = k by simp]
theorem repT_len (W H : Int) (L : List Sq) (k : Int) (V G : Int) (M : List Sq) : (repT W H L k V G M).2.2.1.length ≤ 30 := by
  unfold repT; split
  · exact Mk_len _ _ _
  · simp [noT]
theorem rp_perm (m p : Int) (L : List Sq) (k : Nat) (s : Sq) (M : List Sq) :
    ([(growL m L).take k, (growL m L).drop (k + 1), J.mvL (m * s.x) (m * s.y) (growL p M)] : List (List Sq)).flatten.Perm (rpL m p L k s M) := by
  simp only [List.flatten_cons, List.flatten_nil, List.append_nil, rpL]
  rw [J.grow_j m L, J.mv_grow, Int.mul_comm m s.x, Int.mul_comm m s.y]
  exact J.replace_perm _ _ _
theorem RowsQ.three {w : World} {A B C : Option Addr} {c d e : Nat} {L M Q : List Sq} {g : Nat} (hg : g < w.heap.size) (e0 : w.cell? ⟨g, 0, none⟩ = some (.slice A L.length c)) (e1 : w.cell? ⟨g, 1, none⟩ = some (.slice B M.length d)) (e2 : w.cell? ⟨g, 2, none⟩ = some (.slice C Q.length e))
    (hA : SqsAt w w.heap.size A L) (hB : SqsAt w w.heap.size B M) (hC : SqsAt w w.heap.size C Q) (cA : L.length ≤ c) (cB : M.length ≤ d) (cC : Q.length ≤ e) (nA : A = none → L.length = 0 ∧ c = 0) (nB : B = none → M.length = 0 ∧ d = 0) (nC : C = none → Q.length = 0 ∧ e = 0) : RowsQ w w.heap.size (some ⟨g, 0, none⟩) [L, M, Q] := by
  intro i l hi
  match i, hi with
  | 0, hi => simp at hi; subst hi; exact ⟨g, 0, A, c, rfl, hg, by simpa using e0, cA, hA, nA⟩
  | 1, hi => simp at hi; subst hi; exact ⟨g, 0, B, d, rfl, hg, by simpa using e1, cB, hB, nB⟩
  | 2, hi => simp at hi; subst hi; exact ⟨g, 0, C, e, rfl, hg, by simpa using e2, cC, hC, nC⟩
theorem SqsAt.drop {w : World} {B g : Nat} {L : List Sq} (h : SqsAt w B (some ⟨g, 0, none⟩) L) (k : Nat) : SqsAt w B (some ⟨g, k * 3, none⟩) (L.drop k) := by
  intro i s hs
  rw [List.getElem?_drop] at hs
  obtain ⟨b, off, e, hB, c0, c1, c2⟩ := h (k + i) s hs
  simp only [Option.some.injEq, Addr.mk.injEq] at e
  obtain ⟨rfl, rfl, _⟩ := e
  refine ⟨g, k * 3, rfl, hB, ?_, ?_, ?_⟩
  · rw [← c0]; congr 2; omega
  · rw [← c1]; congr 2; omega
  · rw [← c2]; congr 2; omega

end Go.Proofs.Ytilneimiedfjnaa
