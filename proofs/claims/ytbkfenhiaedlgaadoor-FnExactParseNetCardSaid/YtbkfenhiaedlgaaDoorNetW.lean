/- Wires of nets: the program's and the model's tests. An entry of a map literal. -/
import Derived.Test.YtbkfenhiaedlgaaDoorNetB
import Derived.Maps.OwnSet
import Derived.Maps.OwnOps
set_option linter.all false
namespace Go.Proofs.YtbkfenhiaedlgaaDoor
open Go.RowKit Go.Maps

theorem wpList_insert_own {H : Type} {P : Program} (w : World) {ops : Array Oper} {rest : List Oper} {o : Oper} {a : Act} {Q : Exit → Act → World → Prop}
    (hg : o.guard = none) (m x v : Operand) (t : TypeId) (hop : o.op = Op.insert t m x v)
    (k e : TypeId) (K : Keyed P k) (ht : P.underlying t = some (.map k e)) (R : Value → Option (DataW H × List MemPlace)) (b n : Nat) (D : DataW H)
    (hm : a.eval m = .map (some b)) (hown : w.ownsMap P k R b n D) (hn : n < maxLen) (key val : Value) (kl : Lit) (hx : a.eval x = key) (hv : a.eval v = val) (hkey : keyOf P k key = some kl)
    (d : DataW H) (ps : List MemPlace) (hval : R val = some (d, ps))
    (hK : ∀ w', w'.ownsMap P k R b (n + 1) (D.put kl d) → w.grownBy w' (some b) → wpList P ops Q rest (a.put o.dst undef) w') :
    wpList P ops Q (o :: rest) a w := by
  refine wpList_plain hg fun K' hK' => ?_
  obtain ⟨w', hrun, r1, r2⟩ := hown.update K ht hn hkey hval
  unfold Oper.wp
  simp [execOp, hop, hm, hx, hv, hrun, Result.andThen]
  exact hK' _ _ (hK w' r1 r2)

set_option maxRecDepth 100000 in
theorem isWire_any (a b N : Int) (w : World) : Calls Tryd.prog 127 #[.agg #[.int .i64 a, .int .i64 b], .int .i64 N] w (RetB w (WOk N ⟨a, b⟩)) := by
  have hb0 : Below w.heap.size w (w.alloc (.cells #[.int .i64 a, .int .i64 b] 110)) := (Below.refl _ _).alloc (Nat.le_refl _) _
  by_cases h1 : a = b
  · subst h1
    go_enter Tryd.func127, Tryd.ntmps127
    go_wp2_with fail
    go_ret
    exact RetB.mk (by simp [WOk]) hb0
  · go_enter Tryd.func127, Tryd.ntmps127
    go_wp2_with fail
    all_goals (go_ret; exact RetB.mk (by simp [WOk]; omega) hb0)

set_option maxRecDepth 100000 in
theorem neWire_any (a b N : Int) (A : Option Addr) (n c : Nat) (w : World) (hN : 0 ≤ N ∧ N ≤ 1000) : Calls Tryd.prog 124 #[.agg #[.int .i64 N, .slice A n c], .agg #[.int .i64 a, .int .i64 b]] w (RetB w (WOk N ⟨a, b⟩)) := by
  have hb0 : Below w.heap.size w ((w.alloc (.cells #[.int .i64 N, .slice A n c] 51)).alloc (.cells #[.int .i64 a, .int .i64 b] 110)) := ((Below.refl _ _).alloc (Nat.le_refl _) _).alloc (by simp) _
  by_cases h1 : 0 ≤ a ∧ a ≤ N - 1
  · have d1 := inB_iff.2 h1
    by_cases h2 : 0 ≤ b ∧ b ≤ N - 1
    · have d2 := inB_iff.2 h2
      go_enter Tryd.func124, Tryd.ntmps124
      go_wp2_with fail
      refine (l1In_any _ _ _ _).mono ?_
      rw [d1]
      rintro e w' ⟨rfl, rfl⟩
      go_wp2_with fail
      refine (l1In_any _ _ _ _).mono ?_
      rw [d2]
      rintro e w' ⟨rfl, rfl⟩
      go_wp2_with fail
      go_ret
      exact RetB.mk (by simp [WOk]; omega) hb0
    · have d2 : inB b 0 (N - 1) = false := by cases e : inB b 0 (N - 1) with | false => rfl | true => exact absurd (inB_iff.1 e) h2
      go_enter Tryd.func124, Tryd.ntmps124
      go_wp2_with fail
      refine (l1In_any _ _ _ _).mono ?_
      rw [d1]
      rintro e w' ⟨rfl, rfl⟩
      go_wp2_with fail
      refine (l1In_any _ _ _ _).mono ?_
      rw [d2]
      rintro e w' ⟨rfl, rfl⟩
      go_wp2_with fail
      go_ret
      exact RetB.mk (by simp [WOk]; omega) hb0
  · have d1 : inB a 0 (N - 1) = false := by cases e : inB a 0 (N - 1) with | false => rfl | true => exact absurd (inB_iff.1 e) h1
    go_enter Tryd.func124, Tryd.ntmps124
    go_wp2_with fail
    refine (l1In_any _ _ _ _).mono ?_
    rw [d1]
    rintro e w' ⟨rfl, rfl⟩
    go_wp2_with fail
    go_ret
    exact RetB.mk (by simp [WOk]; omega) hb0
end Go.Proofs.YtbkfenhiaedlgaaDoor
