/- ParseNet of the model; what both sides return. -/
import Derived.Test.YtbkfenhiaedlgaaDoorNpPi
set_option linter.all false
namespace Go.Proofs.YtbkfenhiaedlgaaDoor
open Go.RowKit

/-- The net with a text, if there is one. -/
noncomputable def npV (l : List UInt8) : Int × List Wi × Bool := by
  classical exact if h : ∃ p : Int × List Wi, NetG p.1 p.2 ∧ ntx p.1.toNat p.2 = l then ((Classical.choose h).1, (Classical.choose h).2, true) else (0, [], false)
theorem npV_yes {l : List UInt8} {W : Int} {L : List Wi} (hG : NetG W L) (e : ntx W.toNat L = l) : npV l = (W, L, true) := by
  have h : ∃ p : Int × List Wi, NetG p.1 p.2 ∧ ntx p.1.toNat p.2 = l := ⟨(W, L), hG, e⟩
  unfold npV
  rw [dif_pos h]
  obtain ⟨h1, h2⟩ := Classical.choose_spec h
  obtain ⟨a, c⟩ := ntx_uniq h1 hG (h2.trans e.symm)
  rw [a, c]
theorem npV_no {l : List UInt8} (hn : ∀ W L, NetG W L → ntx W.toNat L ≠ l) : npV l = (0, [], false) := by
  unfold npV
  rw [dif_neg (fun ⟨p, h1, h2⟩ => hn _ _ h1 h2)]
theorem npV_len (l : List UInt8) : (npV l).2.1.length ≤ 30 := by
  by_cases h : ∃ p : Int × List Wi, NetG p.1 p.2 ∧ ntx p.1.toNat p.2 = l
  · obtain ⟨p, hG, e⟩ := h
    rw [npV_yes hG e]
    exact hG.2.1.2
  · rw [npV_no (fun W L hG e => h ⟨(W, L), hG, e⟩)]; simp
def RetNv (w : World) (X : Int) (L : List Wi) (ok : Bool) (e : Ending) (w' : World) : Prop :=
  ∃ A c, e = .returned (.tuple #[.agg #[.int .i64 X, .slice A L.length c], .bool ok]) ∧ w'.ownsRow w.heap.size 110 2 (.slice A L.length c) L.length (flatW L) ∧ Below w.heap.size w w'
theorem RetNy.v {w w' : World} {l : List UInt8} {e : Ending} (h : RetNy w l e w') : RetNv w (npV l).1 (npV l).2.1 (npV l).2.2 e w' := by
  obtain ⟨hb, ⟨W, A, c, L, rfl, ho, hG, e⟩ | ⟨hn, rfl⟩⟩ := h
  · rw [npV_yes hG e]; exact ⟨A, c, rfl, ho, hb⟩
  · rw [npV_no hn]; exact ⟨none, 0, rfl, World.ownsRow_nil _ _ _ _, hb⟩
set_option maxRecDepth 100000 in
/-- A cut in its result's cell, and a bool: ParseNet of the model. -/
theorem ret_npS {tmps : Array Value} {w : World} {B : Nat} {W : Int} {A : Option Addr} {n c : Nat} {b : Bool} (K : Nx B w W A n c) (hp : tmps.getD 2 undef = .pointer (some ⟨B, 0, none⟩)) (hu : tmps.getD 3 undef = .bool b) :
    (results Tryd.f30 tmps).run Tryd.prog w = .ok (.tuple #[.agg #[.int .i64 W, .slice A n c], .bool b]) w := by
  have c0 := K.c0
  have c1 := K.c1
  rw [results_cell_tmp rfl, hp, hu]
  simp [go_sem, c0, c1]
set_option maxRecDepth 100000 in
set_option maxHeartbeats 4000000 in
theorem specNp_any (l : List UInt8) (hl : l.length ≤ 1048576) (w : World) : Calls Tryd.prog 30 #[.string (bas l)] w (RetNy w l) := by
  have B0 : Below w.heap.size w (w.alloc (.cells #[.int .i64 0, .slice none 0 0] 51)) := (Below.refl _ _).alloc (Nat.le_refl _) _
  have K0 := Nx.start w 0 none 0 0 51
  have C1 := Lib.hid (neParse_any l hl (w.alloc (.cells #[.int .i64 0, .slice none 0 0] 51)))
  obtain ⟨S, hS⟩ : ∃ S, bas l = S := ⟨_, rfl⟩
  rw [hS] at C1 ⊢
  clear hS
  go_enter Tryd.func30, Tryd.ntmps30
  go_wp2_with fail
  (with_reducible refine C1.out.mono ?_)
  rintro e w2 ⟨W, A, c, L, ok, rfl, ho, hb2, hy, hn⟩
  have B2 := B0.trans (hb2.mono B0.size)
  have K2 := K0.next hb2
  have F2 : ∀ o, w2.frozen? ⟨w.heap.size, o, none⟩ = false := fun o => (hb2.frozen (p := ⟨w.heap.size, o, none⟩) K0.lt).trans (by simp)
  have hl2 := K2.lt
  obtain ⟨kl, k0, k1⟩ := id K2
  have f0 := F2 0
  have f1 := F2 1
  have HY := Lib.hid hy
  have HN := Lib.hid hn
  have HO := Lib.hid ho
  clear C1 hy hn ho hb2 F2
  have al : ∀ (u : World) (o : Obj), Below u.heap.size u (u.alloc o) := fun u o => (Below.refl _ _).alloc (Nat.le_refl _) o
  cases ok with
  | true =>
    go_wp2_with fail
    (try simp only [Exit.inBlock, Exit.then])
    refine bodyPost_ret (ret_npS ((Nx.set2 ⟨kl, k0, k1⟩ W A L.length c).next (al _ _)) rfl rfl) rfl ?_
    refine ⟨(below_set2 B2 _ _).trans ((al _ _).mono (by simpa using B2.size)), .inl ⟨W, A, c, L, rfl, own_keep (own_base (ownsRow_setCell_below (ownsRow_setCell_below HO.out (by simp) _) (by simp) _) (by simp)) (al _ _), (HY.out trivial).1, (HY.out trivial).2⟩⟩
  | false =>
    go_wp2_with fail
    (try simp only [Exit.inBlock, Exit.then])
    refine bodyPost_ret (ret_npS ((Nx.set2 ⟨kl, k0, k1⟩ 0 none 0 0).next (al _ _)) rfl rfl) rfl ?_
    exact ⟨(below_set2 B2 _ _).trans ((al _ _).mono (by simpa using B2.size)), .inr ⟨HN.out trivial, rfl⟩⟩
end Go.Proofs.YtbkfenhiaedlgaaDoor
