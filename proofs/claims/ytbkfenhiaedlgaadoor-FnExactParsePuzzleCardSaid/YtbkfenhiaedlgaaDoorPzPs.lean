/- ParsePuzzle of the model; what both sides return. -/
import Derived.Test.YtbkfenhiaedlgaaDoorPzPi
set_option linter.all false
namespace Go.Proofs.YtbkfenhiaedlgaaDoor
open Go.RowKit

/-- The good puzzle with a text, if there is one. -/
noncomputable def pzpV (l : List UInt8) : Int × Int × List Sq × Bool := by
  classical exact if h : ∃ p : Int × Int × List Sq, GoodP p.1 p.2.1 p.2.2 ∧ ptx p.1.toNat p.2.1.toNat p.2.2 = l then ((Classical.choose h).1, (Classical.choose h).2.1, (Classical.choose h).2.2, true) else (0, 0, [], false)
theorem pzpV_yes {l : List UInt8} {W H : Int} {L : List Sq} (hG : GoodP W H L) (e : ptx W.toNat H.toNat L = l) : pzpV l = (W, H, L, true) := by
  have h : ∃ p : Int × Int × List Sq, GoodP p.1 p.2.1 p.2.2 ∧ ptx p.1.toNat p.2.1.toNat p.2.2 = l := ⟨(W, H, L), hG, e⟩
  unfold pzpV
  rw [dif_pos h]
  obtain ⟨h1, h2⟩ := Classical.choose_spec h
  obtain ⟨a, b, c⟩ := ptx_uniq h1 hG (h2.trans e.symm)
  rw [a, b, c]
theorem pzpV_no {l : List UInt8} (hn : ∀ W H L, GoodP W H L → ptx W.toNat H.toNat L ≠ l) : pzpV l = (0, 0, [], false) := by
  unfold pzpV
  rw [dif_neg (fun ⟨p, h1, h2⟩ => hn _ _ _ h1 h2)]
theorem pzpV_len (l : List UInt8) : (pzpV l).2.2.1.length ≤ 30 := by
  by_cases h : ∃ p : Int × Int × List Sq, GoodP p.1 p.2.1 p.2.2 ∧ ptx p.1.toNat p.2.1.toNat p.2.2 = l
  · obtain ⟨p, hG, e⟩ := h
    rw [pzpV_yes hG e]
    exact Nat.le_trans hG.2.1 (by omega)
  · rw [pzpV_no (fun W H L hG e => h ⟨(W, H, L), hG, e⟩)]; simp
def RetPvz (w : World) (X Y : Int) (L : List Sq) (ok : Bool) (e : Ending) (w' : World) : Prop :=
  ∃ A c, e = .returned (.tuple #[.agg #[.int .i64 X, .int .i64 Y, .slice A L.length c], .bool ok]) ∧ w'.ownsRow w.heap.size 122 3 (.slice A L.length c) L.length (flat L) ∧ Below w.heap.size w w'
theorem RetPy.v {w w' : World} {l : List UInt8} {e : Ending} (h : RetPy w l e w') : RetPvz w (pzpV l).1 (pzpV l).2.1 (pzpV l).2.2.1 (pzpV l).2.2.2 e w' := by
  obtain ⟨hb, ⟨W, H, A, c, L, rfl, ho, hG, e⟩ | ⟨hn, rfl⟩⟩ := h
  · rw [pzpV_yes hG e]; exact ⟨A, c, rfl, ho, hb⟩
  · rw [pzpV_no hn]; exact ⟨none, 0, rfl, World.ownsRow_nil _ _ _ _, hb⟩
set_option maxRecDepth 100000 in
/-- A cut in its result's cell, and a bool: ParsePuzzle of the model. -/
theorem ret_pzS {tmps : Array Value} {w : World} {B : Nat} {W H : Int} {A : Option Addr} {n c : Nat} {b : Bool} (K : Bx B w W H A n c) (hp : tmps.getD 2 undef = .pointer (some ⟨B, 0, none⟩)) (hu : tmps.getD 3 undef = .bool b) :
    (results Tryd.f39 tmps).run Tryd.prog w = .ok (.tuple #[.agg #[.int .i64 W, .int .i64 H, .slice A n c], .bool b]) w := by
  have c0 := K.c0
  have c1 := K.c1
  have c2 := K.c2
  rw [results_cell_tmp rfl, hp, hu]
  simp [go_sem, c0, c1, c2]
set_option maxRecDepth 100000 in
set_option maxHeartbeats 4000000 in
theorem specPzp_any (l : List UInt8) (hl : l.length ≤ 1048576) (w : World) : Calls Tryd.prog 39 #[.string (bas l)] w (RetPy w l) := by
  have B0 : Below w.heap.size w (w.alloc (.cells #[.int .i64 0, .int .i64 0, .slice none 0 0] 65)) := (Below.refl _ _).alloc (Nat.le_refl _) _
  have K0 := Bx.start w 0 0 none 0 0 65
  have C1 := Lib.hid (pzParse_any l hl (w.alloc (.cells #[.int .i64 0, .int .i64 0, .slice none 0 0] 65)))
  obtain ⟨S, hS⟩ : ∃ S, bas l = S := ⟨_, rfl⟩
  rw [hS] at C1 ⊢
  clear hS
  go_enter Tryd.func39, Tryd.ntmps39
  go_wp2_with fail
  (with_reducible refine C1.out.mono ?_)
  rintro e w2 ⟨W, H, A, c, L, ok, rfl, ho, hb2, hy, hn⟩
  have B2 := B0.trans (hb2.mono B0.size)
  have K2 := K0.next hb2
  have F2 : ∀ o, w2.frozen? ⟨w.heap.size, o, none⟩ = false := fun o => (hb2.frozen (p := ⟨w.heap.size, o, none⟩) K0.lt).trans (by simp)
  have hl2 := K2.lt
  obtain ⟨kl, k0, k1, k2⟩ := id K2
  have f0 := F2 0
  have f1 := F2 1
  have f2 := F2 2
  have HY := Lib.hid hy
  have HN := Lib.hid hn
  have HO := Lib.hid ho
  clear C1 hy hn ho hb2 F2
  have al : ∀ (u : World) (o : Obj), Below u.heap.size u (u.alloc o) := fun u o => (Below.refl _ _).alloc (Nat.le_refl _) o
  cases ok with
  | true =>
    go_wp2_with fail
    (try simp only [Exit.inBlock, Exit.then])
    refine bodyPost_ret (ret_pzS ((Bx.set3 ⟨kl, k0, k1, k2⟩ W H A L.length c).next (al _ _)) rfl rfl) rfl ?_
    refine ⟨(below_set3 B2 _ _ _).trans ((al _ _).mono (by simpa using B2.size)), .inl ⟨W, H, A, c, L, rfl, own_keep (own_base (ownsRow_setCell_below (ownsRow_setCell_below (ownsRow_setCell_below HO.out (by simp) _) (by simp) _) (by simp) _) (by simp)) (al _ _), (HY.out trivial).1, (HY.out trivial).2⟩⟩
  | false =>
    go_wp2_with fail
    (try simp only [Exit.inBlock, Exit.then])
    refine bodyPost_ret (ret_pzS ((Bx.set3 ⟨kl, k0, k1, k2⟩ 0 0 none 0 0).next (al _ _)) rfl rfl) rfl ?_
    exact ⟨(below_set3 B2 _ _ _).trans ((al _ _).mono (by simpa using B2.size)), .inr ⟨HN.out trivial, rfl⟩⟩
end Go.Proofs.YtbkfenhiaedlgaaDoor
