/- The net of a cut, plain: which line a point is on, the wires. -/
import Derived.Test.YtnnhgblgbbfmpaaLnN
import Derived.Test.YtnnhgblgbbfmpaaLnQ
set_option linter.all false
namespace Go.Proofs.Ytnnhgblgbbfmpaa
open Go.RowKit

/-- The line that a point is on. -/
noncomputable def lnIx (R : List M.Ln) (y x : Int) : Nat := Classical.epsilon fun k => AtLn R y x k
theorem lnIx_at {P : Int → Int → Prop} {R : List M.Ln} (h : M.IsLines P R) {y x : Int} (hp : P y x) : AtLn R y x (lnIx R y x) := by
  apply Classical.epsilon_spec (p := fun k => AtLn R y x k)
  obtain ⟨r, hr, h1, h2, h3⟩ := (h.cov y x).1 hp
  obtain ⟨k, hk⟩ := List.mem_iff_getElem?.1 hr
  exact ⟨k, r, hk, h1, h2, h3⟩
theorem atLn_lt {R : List M.Ln} {y x : Int} {k : Nat} (h : AtLn R y x k) : k < R.length := by
  obtain ⟨t, ht, _⟩ := h
  exact (List.getElem?_eq_some_iff.1 ht).1
noncomputable def wiOf (R : List M.Ln) (s : Sq) : Wi := ⟨lnIx R s.y s.x, lnIx R (s.y + s.d) s.x⟩
noncomputable def netW (L : List Sq) : List Wi := L.map (wiOf (M.linesC L))
theorem netW_len (L : List Sq) : (netW L).length = L.length := by simp [netW]
def NetOk (W H : Int) (L : List Sq) : Prop := Good W H L ∧ (M.linesC L).length ≤ 12
theorem wis_take {R : List M.Ln} {L : List Sq} {k : Nat} {s : Sq} (h : L[k]? = some s) : (L.take (k + 1)).map (wiOf R) = (L.take k).map (wiOf R) ++ [wiOf R s] := by
  rw [List.take_add_one, h]
  simp
theorem linesC_is {W H : Int} {L : List Sq} (hG : Good W H L) : M.IsLines (M.Side L) (M.linesC L) := by
  obtain ⟨a, b, rfl, rfl, hC⟩ := cut_of_good hG
  have h1 := hG.1.1
  have h2 := hG.2.1.1
  obtain ⟨R, hR, _⟩ := M.lines_ex hC (by omega) (by omega) hG.2.2.1.2
  exact M.lines_is hR ▸ hR
theorem top_at {W H : Int} {L : List Sq} (hG : Good W H L) {s : Sq} (hs : s ∈ L) (hd : 1 ≤ s.d) : AtLn (M.linesC L) s.y s.x (lnIx (M.linesC L) s.y s.x) :=
  lnIx_at (linesC_is hG) ⟨s, hs, .inl rfl, Int.le_refl _, by omega⟩
theorem bot_at {W H : Int} {L : List Sq} (hG : Good W H L) {s : Sq} (hs : s ∈ L) (hd : 1 ≤ s.d) : AtLn (M.linesC L) (s.y + s.d) s.x (lnIx (M.linesC L) (s.y + s.d) s.x) :=
  lnIx_at (linesC_is hG) ⟨s, hs, .inr rfl, Int.le_refl _, by omega⟩

/-- It returns a net, the sides of its wires and a bool, all in memory of its own. -/
def RetNS (w : World) (N : Int) (Lw : List Wi) (sd : List Int) (ok : Bool) (e : Ending) (w' : World) : Prop :=
  ∃ A c A2 c2, e = .returned (.tuple #[.agg #[.int .i64 N, .slice A Lw.length c], .slice A2 sd.length c2, .bool ok]) ∧
    w'.ownsRow w.heap.size 86 2 (.slice A Lw.length c) Lw.length (flatW Lw) ∧ w'.ownsRow w.heap.size 3 1 (.slice A2 sd.length c2) sd.length (ints sd) ∧
    (∀ k, (Value.slice A Lw.length c).ownBlock = some k → (Value.slice A2 sd.length c2).ownBlock ≠ some k) ∧ Below w.heap.size w w'
theorem RetNS.none_ {w w' : World} (hb : Below w.heap.size w w') : RetNS w 0 [] [] false (.returned (.tuple #[.agg #[.int .i64 0, .slice none 0 0], .slice none 0 0, .bool false])) w' :=
  ⟨none, 0, none, 0, rfl, World.ownsRow_nil _ _ _ _, World.ownsRow_nil _ _ _ _, fun k hk => (by cases hk), hb⟩
theorem RetNS.mk {w w' : World} {N : Int} {Lw : List Wi} {sd : List Int} {A A2 : Option Addr} {n c n2 c2 : Nat} {ok : Bool} (hn : n = Lw.length) (hn2 : n2 = sd.length)
    (ho : w'.ownsRow w.heap.size 86 2 (.slice A n c) n (flatW Lw)) (ho2 : w'.ownsRow w.heap.size 3 1 (.slice A2 n2 c2) n2 (ints sd))
    (ha : ∀ k, (Value.slice A n c).ownBlock = some k → (Value.slice A2 n2 c2).ownBlock ≠ some k) (hb : Below w.heap.size w w') :
    RetNS w N Lw sd ok (.returned (.tuple #[.agg #[.int .i64 N, .slice A n c], .slice A2 n2 c2, .bool ok])) w' := by
  subst hn hn2; exact ⟨A, c, A2, c2, rfl, ho, ho2, ha, hb⟩
end Go.Proofs.Ytnnhgblgbbfmpaa
