/- How an argument that is a cut reads: its numbers, and its squares as a list. -/
import Derived.Test.YtebnekicbcdnaaaRows
import Derived.Test.YtebnekicbcdnaaaPlain
import Derived.ProofKit
import Derived.SizedLaws
import Derived.Lib.SmallJoins
import Derived.Deep.Slices
import Derived.Deep.Fields
import Derived.ChangeSame
set_option linter.all false
namespace Go.Proofs.Ytebnekicbcdnaaa
open Go.ChangeShapes Go.WideShapes Go.ChangeAt Go.RowKit Go.Deep Go.Joins

section
variable {H : Type} {enc : TypeId × Value → H} {P : Program} {w : World} {base : Nat} {spare : Nat → Bool} {held : Bool}
theorem open_slice_fields {t e : TypeId} {fs : Array Field} {fuel : Nat} {cs : List Value} {x : DataW H × List MemPlace} (ht : P.underlying t = some (.slice e)) (he : P.underlying e = some (.struct fs))
    (hone : oneCellFields P fs = true) (hC : P.cellsOf e = fs.size) (h : DataW.trod enc P w base spare held fuel t cs = some x) :
    (cs = [.slice none 0 0] ∧ x = (.nil, [])) ∨
    ∃ (a : Addr) (len cap m : Nat) (D : Nat → DataW H) (Pl : Nat → List MemPlace), cs = [.slice (some a) len cap] ∧ base ≤ a.block ∧ len ≤ cap ∧ cap ≤ maxLen ∧ m = (if spare a.block then cap else len) ∧
      x = (.slice ((List.range len).map D) ((List.range (m - len)).map fun j => D (len + j)), MemPlace.row a (m * fs.size) ++ (List.range m).flatMap Pl) ∧
      ∀ i, i < m → ∃ (ys : List (DataW H × List MemPlace)) (n : Nat), D i = .agg (ys.map (·.1)) ∧ Pl i = ys.flatMap (·.2) ∧ ys.length = fs.size ∧
        ∀ (j : Nat) (f : Field), fs[j]? = some f → ∃ (v : Value) (y : DataW H × List MemPlace), w.cell? (a.add (i * fs.size + j)) = some v ∧ ys[j]? = some y ∧ DataW.trod enc P w base spare held n f.type [v] = some y := by
  rcases open_slice ht h with h0 | ⟨a, len, cap, m, n, D, Pl, hcs, hb, hl, hm, hmm, hx, hi⟩
  · exact .inl h0
  · refine .inr ⟨a, len, cap, m, D, Pl, hcs, hb, hl, hm, hmm, by rw [hC] at hx; exact hx, fun i him => ?_⟩
    obtain ⟨cs', hc, ht'⟩ := hi i him
    rw [hC] at hc
    obtain ⟨ys, n', hn', hy, hlen, hyl, hf⟩ := DataW.trod_struct he ht'
    obtain ⟨_, hcl, hat⟩ := World.cells?_some hc
    simp only [Prod.mk.injEq] at hy
    refine ⟨ys, n', hy.1, hy.2, hyl, fun j f hj => ?_⟩
    obtain ⟨ho, hk⟩ := hone_of hone j f hj
    have hjl : j < fs.size := (Array.getElem?_eq_some_iff.1 hj).1
    have hcell := hat j hjl
    have hv : cs'[j]? = some (cs'[j]'(by omega)) := List.getElem?_eq_getElem (by omega)
    have h1 := hf j f hj
    rw [ho, hk] at h1
    have hone' : (cs'.drop j).take 1 = [cs'[j]'(by omega)] := by
      rw [List.drop_eq_getElem_cons (by omega)]
      rfl
    rw [hone'] at h1
    have hys : ys[j]? = some (ys[j]'(by omega)) := List.getElem?_eq_getElem (by omega)
    refine ⟨_, _, ?_, hys, h1.trans hys⟩
    rw [← Go.Deep.add_add, hcell, hv]
end

theorem wf_of {n : Int} (h : (Lit.int .i64 n).wf = true) : wfI n := by
  have h1 : IntKind.i64.min = -9223372036854775808 := rfl
  have h2 : IntKind.i64.max = 9223372036854775807 := rfl
  simp only [Lit.wf, Bool.and_eq_true, decide_eq_true_eq] at h
  unfold wfI
  omega
theorem of_wf {n : Int} (h : wfI n) : (Lit.int .i64 n).wf = true := by
  have h1 : IntKind.i64.min = -9223372036854775808 := rfl
  have h2 : IntKind.i64.max = 9223372036854775807 := rfl
  simp only [Lit.wf, Bool.and_eq_true, decide_eq_true_eq]
  unfold wfI at h
  omega

theorem Try.own : ownKnob Try.prog.godebug = none := by kernel_rfl
theorem Try.laidOut : laidOutB Try.prog = true := by kernel_rfl
theorem cells71 : Try.prog.cellsOf 99 = 3 := by kernel_rfl
theorem cells24 : Try.prog.cellsOf 41 = 3 := by kernel_rfl

theorem add_spot {w : World} {a : Addr} {v : Value} (h : w.cell? (a.add 0) = some v) : a = ⟨a.block, a.off, none⟩ := by
  have e : a.add 0 = a := by simp [Addr.add]
  rw [e] at h
  cases hs : a.spot with
  | none => cases a; simp_all
  | some s =>
    unfold World.cell? at h
    split at h
    · rw [hs] at h; simp at h
    · cases h
theorem add_at (b off j : Nat) : (⟨b, off, none⟩ : Addr).add j = ⟨b, off + j, none⟩ := by
  unfold Addr.add
  split
  · subst_vars; rfl
  · rfl

section
variable {H : Type} {enc : TypeId × Value → H} {w : World} {base : Nat} {spare : Nat → Bool} {held : Bool}
theorem open_sqs {fuel : Nat} {v : Value} {x : DataW H × List MemPlace} (h : DataW.trod enc Try.prog w base spare held fuel 39 [v] = some x) :
    ∃ (A : Option Addr) (n c : Nat) (L : List Sq), v = .slice A n c ∧ n ≤ c ∧ n ≤ 9223372036854775807 ∧ L.length = n ∧ SqsAt w w.heap.size A L ∧ ∀ s ∈ L, wfS s := by
  rcases open_slice_fields Try.underlying39 Try.underlying99 (by kernel_rfl) cells71 h with ⟨h0, _⟩ | ⟨a, len, cap, m, D, Pl, hcs, _, hl, hm, hmm, _, hi⟩
  · cases h0
    exact ⟨none, 0, 0, [], rfl, Nat.le_refl _, by omega, rfl, fun i s hs => by simp at hs, fun s hs => by simp at hs⟩
  · cases hcs
    have hall : ∀ i, i < len → ∃ s : Sq, wfS s ∧ w.cell? (a.add (i * 3 + 0)) = some (.int .i64 s.x) ∧ w.cell? (a.add (i * 3 + 1)) = some (.int .i64 s.y) ∧ w.cell? (a.add (i * 3 + 2)) = some (.int .i64 s.d) := by
      intro i hil
      obtain ⟨ys, n, _, _, hlen, hf⟩ := hi i (by rw [hmm]; split <;> omega)
      obtain ⟨v0, y0, k0, _, t0⟩ := hf 0 _ rfl
      obtain ⟨v1, y1, k1, _, t1⟩ := hf 1 _ rfl
      obtain ⟨v2, y2, k2, _, t2⟩ := hf 2 _ rfl
      obtain ⟨x, e0, _, f0⟩ := DataW.trod_int Try.underlying3 t0
      obtain ⟨y, e1, _, f1⟩ := DataW.trod_int Try.underlying3 t1
      obtain ⟨d, e2, _, f2⟩ := DataW.trod_int Try.underlying3 t2
      cases e0; cases e1; cases e2
      exact ⟨⟨x, y, d⟩, ⟨wf_of f0, wf_of f1, wf_of f2⟩, k0, k1, k2⟩
    obtain ⟨f, hf⟩ := choose_lt hall
    refine ⟨some a, len, cap, (List.range len).map f, rfl, hl, by unfold maxLen at hm; omega, by simp, ?_, ?_⟩
    · intro i s hs
      rw [List.getElem?_map] at hs
      rcases Nat.lt_or_ge i len with hil | hil
      · rw [List.getElem?_range hil] at hs
        simp only [Option.map_some, Option.some.injEq] at hs
        subst hs
        have z := (hf 0 (by omega)).2.1
        have ha := add_spot (a := a) (by simpa using z)
        obtain ⟨_, c0, c1, c2⟩ := hf i hil
        have hb := World.block_lt_of_cell? _ _ c0
        have hb : a.block < w.heap.size := by rw [ha] at hb; simpa [add_at] using hb
        rw [ha] at c0 c1 c2
        simp only [add_at, Nat.add_zero, ← Nat.add_assoc] at c0 c1 c2
        exact ⟨a.block, a.off, by rw [← ha], hb, c0, c1, c2⟩
      · rw [List.getElem?_eq_none (by simpa using hil)] at hs
        cases hs
    · intro s hs
      simp only [List.mem_map, List.mem_range] at hs
      obtain ⟨i, hil, rfl⟩ := hs
      exact (hf i hil).1

set_option maxRecDepth 100000 in
theorem open_cut {r : Reach} {b0 : Nat} {v : Value} {d : DataW H} {p : List MemPlace} (hv : Value.okWide Try.prog w r b0 41 v) (h : DataW.Trod enc Try.prog w base spare held 41 v d p) :
    ∃ (W H' : Int) (A : Option Addr) (n c : Nat) (L : List Sq), v = .agg #[.int .i64 W, .int .i64 H', .slice A n c] ∧ wfI W ∧ wfI H' ∧ n ≤ c ∧ n ≤ 9223372036854775807 ∧ L.length = n ∧ SqsAt w w.heap.size A L ∧ ∀ s ∈ L, wfS s := by
  obtain ⟨v0, v1, v2, y0, y1, y2, n, rfl, _, _, t0, t1, t2⟩ := open_agg3 Try.underlying41 (by kernel_rfl) cells24 hv h
  obtain ⟨W, e0, _, f0⟩ := DataW.trod_int Try.underlying3 t0
  obtain ⟨H', e1, _, f1⟩ := DataW.trod_int Try.underlying3 t1
  obtain ⟨A, n, c, L, rfl, r⟩ := open_sqs t2
  cases e0; cases e1
  exact ⟨W, H', A, n, c, L, rfl, wf_of f0, wf_of f1, r⟩
end
end Go.Proofs.Ytebnekicbcdnaaa
