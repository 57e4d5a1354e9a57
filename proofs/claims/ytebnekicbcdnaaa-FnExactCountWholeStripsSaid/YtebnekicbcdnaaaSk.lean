/- Maps whose keys are columns. -/
import Derived.Test.YtebnekicbcdnaaaSn
import Derived.Test.YtebnekicbcdnaaaSa
import Derived.DeepKeys4
set_option linter.all false
namespace Go.Proofs.Ytebnekicbcdnaaa
open Go.RowKit

theorem check4 (em : Bool) (a b c d : Int) (w : World) : (Instr.checkKey em 10000 82 (.agg #[.int .i64 a, .int .i64 b, .int .i64 c, .int .i64 d])).run Try.prog w = .ok () w := by kernel_rfl
theorem equal4 (a b c d a' b' c' d' : Int) (w : World) : (Op.equal 82 (.agg #[.int .i64 a, .int .i64 b, .int .i64 c, .int .i64 d]) (.agg #[.int .i64 a', .int .i64 b', .int .i64 c', .int .i64 d'])).run Try.prog w = .ok (a == a' && (b == b' && (c == c' && d == d'))) w := by
  have hu : Try.prog.underlying 82 = some (.array 4 3) := by kernel_rfl
  obtain ⟨i0, hi, _⟩ := info_parts infoCol
  obtain ⟨j0, hj, hj0, hj1, hj2⟩ := info_parts infoIntA
  show (Op.equalIn (9999 + 1) _ _ _).run Try.prog w = _
  rw [run_equalIn_array w 9999 _ _ hu hj]
  have u3 := Try.underlying3
  have a3 : ∀ w, (isAgg 3).run Try.prog w = .ok false w := fun _ => by kernel_rfl
  have z3 : ∀ w, (Go.sizeOf 3).run Try.prog w = .ok 1 w := fun _ => by kernel_rfl
  have c3 : Try.prog.cellsOf 3 = 1 := by kernel_rfl
  rw [c3]
  simp only [show List.range 4 = [0, 1, 2, 3] from rfl, Op.eqItems]
  go_simp
  by_cases h1 : a = a' <;> by_cases h2 : b = b' <;> by_cases h3 : c = c' <;> by_cases h4 : d = d' <;> simp [h1, h2, h3, h4]
theorem equalA (g g' : List Int) (h : g.length = 4) (h' : g'.length = 4) (w : World) : (Op.equal 82 (arr g) (arr g')).run Try.prog w = .ok (decide (g = g')) w := by
  obtain ⟨a, b, c, d, rfl⟩ := len4 h
  obtain ⟨a', b', c', d', rfl⟩ := len4 h'
  have := equal4 a b c d a' b' c' d' w
  have e : (a == a' && (b == b' && (c == c' && d == d'))) = decide ([a, b, c, d] = [a', b', c', d']) := by
    by_cases h1 : a = a' <;> by_cases h2 : b = b' <;> by_cases h3 : c = c' <;> by_cases h4 : d = d' <;> simp [h1, h2, h3, h4]
  rw [e] at this
  exact this
theorem checkA (em : Bool) (g : List Int) (h : g.length = 4) (w : World) : (Instr.checkKey em 10000 82 (arr g)).run Try.prog w = .ok () w := by
  obtain ⟨a, b, c, d, rfl⟩ := len4 h
  exact check4 em a b c d w
/-- What a map holds. -/
structure KM (m : Nat) (E : List (List Int × Value)) (w : World) : Prop where
  obj : ∃ es ck, w.heap[m]? = some (.map es ck) ∧ es.toList.map (fun e => (e.key, e.val)) = E.map fun p => (arr p.1, p.2)
  len : ∀ p ∈ E, p.1.length = 4
theorem KM.keep {m : Nat} {E : List (List Int × Value)} {w w' : World} (K : KM m E w) (h : w'.heap[m]? = w.heap[m]?) : KM m E w' := by
  obtain ⟨es, ck, h1, h2⟩ := K.obj
  exact ⟨⟨es, ck, h.trans h1, h2⟩, K.len⟩
theorem KM.lt {m : Nat} {E : List (List Int × Value)} {w : World} (K : KM m E w) : m < w.heap.size := by
  obtain ⟨es, ck, h1, _⟩ := K.obj
  exact (Array.getElem?_eq_some_iff.1 h1).1
theorem findAsk_any (g : List Int) (hg : g.length = 4) : ∀ (l : List MapEntry) (E : List (List Int × Value)) (i : Nat), l.map (fun e => (e.key, e.val)) = E.map (fun p => (arr p.1, p.2)) → (∀ p ∈ E, p.1.length = 4) →
    ((∀ w, (Instr.findAsking 82 (arr g) l i).run Try.prog w = .ok none w) ∧ ∀ p ∈ E, p.1 ≠ g) ∨ (∃ j p, E[j]? = some p ∧ p.1 = g ∧ ∀ w, (Instr.findAsking 82 (arr g) l i).run Try.prog w = .ok (some (i + j, p.2)) w)
  | [], [], i, _, _ => .inl ⟨fun _ => rfl, fun p hp => by cases hp⟩
  | [], _ :: _, i, h, _ => by simp at h
  | _ :: _, [], i, h, _ => by simp at h
  | e :: l, p :: E, i, h, hl => by
    simp only [List.map_cons, List.cons.injEq, Prod.mk.injEq] at h
    obtain ⟨⟨hk, hv⟩, h⟩ := h
    have hp4 := hl p List.mem_cons_self
    have he := fun w => equalA g p.1 hg hp4 w
    simp only [← hk] at he
    by_cases hgp : g = p.1
    · refine .inr ⟨0, p, rfl, hgp.symm, ?_⟩
      simp only [decide_eq_true hgp] at he
      intro w
      simp [Instr.findAsking, he, hv]
    · rcases findAsk_any g hg l E (i + 1) h (fun q hq => hl q (List.mem_cons_of_mem _ hq)) with ⟨h1, h2⟩ | ⟨j, q, h1, h2, h3⟩
      · refine .inl ⟨?_, fun q hq => ?_⟩
        · intro w; simp [Instr.findAsking, he, hgp, h1]
        · rcases List.mem_cons.1 hq with rfl | hq
          · exact fun e => hgp e.symm
          · exact h2 q hq
      · refine .inr ⟨j + 1, q, by simpa using h1, h2, ?_⟩
        intro w
        simp [Instr.findAsking, he, hgp, h3]
        omega
theorem findKey_any (g : List Int) (hg : g.length = 4) (l : List MapEntry) (E : List (List Int × Value)) (h : l.map (fun e => (e.key, e.val)) = E.map (fun p => (arr p.1, p.2))) (hl : ∀ p ∈ E, p.1.length = 4) :
    ((∀ w, (Instr.findKey 82 (arr g) l).run Try.prog w = .ok none w) ∧ ∀ p ∈ E, p.1 ≠ g) ∨ (∃ j p, E[j]? = some p ∧ p.1 = g ∧ ∀ w, (Instr.findKey 82 (arr g) l).run Try.prog w = .ok (some (j, p.2)) w) := by
  have hu : Try.prog.underlying 82 = some (.array 4 3) := by kernel_rfl
  cases l with
  | nil =>
    cases E with
    | nil => exact .inl ⟨fun w => by simp [Instr.findKey, run_underlying hu, Instr.findNow], fun p hp => by cases hp⟩
    | cons p E => simp at h
  | cons e l =>
    have key : ∀ w, (Instr.findKey 82 (arr g) (e :: l)).run Try.prog w = (Instr.findAsking 82 (arr g) (e :: l) 0).run Try.prog w := fun w => by
      simp [Instr.findKey, run_underlying hu, Instr.findNow, Instr.sameNow]
    simp only [key]
    rcases findAsk_any g hg (e :: l) E 0 h hl with h1 | ⟨j, p, h1, h2, h3⟩
    · exact .inl h1
    · exact .inr ⟨j, p, h1, h2, by simpa using h3⟩
theorem zeroRow (w : World) : (zeroValue 25).run Try.prog w = .ok (.slice none 0 0) w := by kernel_rfl
theorem lookup_any (m : Nat) (E : List (List Int × Value)) (g : List Int) (hg : g.length = 4) (w : World) (K : KM m E w) :
    (∃ p ∈ E, p.1 = g ∧ ∀ w' : World, w'.heap[m]? = w.heap[m]? → (Instr.lookup 101 (.map (some m)) (arr g) true).run Try.prog w' = .ok (.tuple #[p.2, .bool true]) w') ∨ ((∀ p ∈ E, p.1 ≠ g) ∧ ∀ w' : World, w'.heap[m]? = w.heap[m]? → (Instr.lookup 101 (.map (some m)) (arr g) true).run Try.prog w' = .ok (.tuple #[.slice none 0 0, .bool false]) w') := by
  have hu : Try.prog.underlying 101 = some (.map 82 25) := by kernel_rfl
  obtain ⟨es, ck, h1, h2⟩ := K.obj
  rcases findKey_any g hg es.toList E h2 K.len with ⟨h3, h4⟩ | ⟨j, p, h3, h4, h5⟩
  · exact .inr ⟨h4, fun w' hw => by simp [Instr.lookup, run_underlying hu, MapKept.run_getObj_map (hw.trans h1), checkA _ g hg w', h3, zeroRow, Result.andThen]⟩
  · exact .inl ⟨p, List.mem_of_getElem? h3, h4, fun w' hw => by simp [Instr.lookup, run_underlying hu, MapKept.run_getObj_map (hw.trans h1), checkA _ g hg w', h5, Result.andThen]⟩
theorem sameA (g : List Int) (hg : g.length = 4) : Instr.sameBits 10000 (arr g) (arr g) = true := by
  obtain ⟨a, b, c, d, rfl⟩ := len4 hg
  simp [arr, ints, Instr.sameBits]
theorem update_any (m : Nat) (E : List (List Int × Value)) (g : List Int) (v : Value) (hg : g.length = 4) (w : World) (K : KM m E w) :
    ∃ w' E', (Instr.mapUpdate 101 (.map (some m)) (arr g) v).run Try.prog w = .ok () w' ∧ KM m E' w' ∧ (∀ p ∈ E', p ∈ E ∨ p = (g, v)) ∧ (∀ p ∈ E, ∃ p' ∈ E', p'.1 = p.1) ∧ w.grownBy w' (some m) := by
  have hu : Try.prog.underlying 101 = some (.map 82 25) := by kernel_rfl
  obtain ⟨es, ck, h1, h2⟩ := K.obj
  have hgr : ∀ o, w.grownBy { w with heap := w.heap.setIfInBounds m o } (some m) := fun o => ⟨rfl, rfl, rfl, by simp, fun k hk hne => by
    show (w.heap.setIfInBounds m o)[k]? = _
    rw [Array.getElem?_setIfInBounds_ne (fun e => hne (by rw [e]))]⟩
  have hlt := K.lt
  rcases findKey_any g hg es.toList E h2 K.len with ⟨h3, h4⟩ | ⟨j, p, h3, h4, h5⟩
  · refine ⟨{ w with heap := w.heap.setIfInBounds m (.map (es.push { key := arr g, val := v, born := ck }) (ck + 1)) }, E ++ [(g, v)], ?_, ⟨⟨es.push { key := arr g, val := v, born := ck }, ck + 1, by simp [hlt], ?_⟩, fun q hq => ?_⟩, fun q hq => ?_, fun q hq => ⟨q, List.mem_append_left _ hq, rfl⟩, hgr _⟩
    · simp [Instr.mapUpdate, run_underlying hu, MapKept.run_getObj_map h1, checkA _ g hg w, h3, MapKept.run_setObj_map _ h1, Result.andThen]
    · simp [h2]
    · rcases List.mem_append.1 hq with hq | hq
      · exact K.len q hq
      · simp at hq; subst hq; exact hg
    · rcases List.mem_append.1 hq with hq | hq
      · exact .inl hq
      · simp at hq; exact .inr hq
  · obtain ⟨e0, he0⟩ : ∃ e0, es.toList[j]? = some e0 := by
      have : (es.toList.map (fun e => (e.key, e.val)))[j]? = some (arr p.1, p.2) := by rw [h2, List.getElem?_map, h3]; rfl
      rw [List.getElem?_map] at this
      cases hc : es.toList[j]? with
      | none => rw [hc] at this; cases this
      | some e0 => exact ⟨e0, rfl⟩
    have hek : e0.key = arr g := by
      have : (es.toList.map (fun e => (e.key, e.val)))[j]? = some (arr p.1, p.2) := by rw [h2, List.getElem?_map, h3]; rfl
      rw [List.getElem?_map, he0] at this
      simp only [Option.map_some, Option.some.injEq, Prod.mk.injEq] at this
      rw [this.1, h4]
    have hes : es[j]? = some e0 := by simpa using he0
    have hst : (Instr.keyThatStays (((es[j]?).map (·.key)).getD (arr g)) (arr g)).run Try.prog w = .ok (arr g) w := by
      rw [hes]
      simp [Instr.keyThatStays, hek, sameA g hg]
    refine ⟨{ w with heap := w.heap.setIfInBounds m (.map (es.modify j fun e => { e with key := arr g, val := v }) ck) }, E.set j (g, v), ?_, ⟨⟨es.modify j fun e => { e with key := arr g, val := v }, ck, by simp [hlt], ?_⟩, fun q hq => ?_⟩, fun q hq => ?_, fun q hq => ?_, hgr _⟩
    · simp [Instr.mapUpdate, run_underlying hu, MapKept.run_getObj_map h1, checkA _ g hg w, h5, hst, MapKept.run_setObj_map _ h1, Result.andThen]
    · apply List.ext_getElem?
      intro i
      have h6 := congrArg (fun L => L[i]?) h2
      simp only [List.getElem?_map] at h6 ⊢
      rw [List.getElem?_set]
      by_cases e : j = i
      · subst e
        have hjl := (List.getElem?_eq_some_iff.1 h3).1
        rw [if_pos rfl, if_pos hjl]
        simp [Array.getElem?_modify, hes]
      · rw [if_neg e, ← h6]
        simp [Array.getElem?_modify, e]
    · rcases List.mem_or_eq_of_mem_set hq with hq | hq
      · exact K.len q hq
      · subst hq; exact hg
    · rcases List.mem_or_eq_of_mem_set hq with hq | hq
      · exact .inl hq
      · exact .inr hq
    · obtain ⟨i, hi, e⟩ := List.mem_iff_getElem.1 hq
      have hjl := (List.getElem?_eq_some_iff.1 h3).1
      by_cases e2 : j = i
      · subst e2
        refine ⟨(g, v), List.mem_iff_getElem?.2 ⟨j, by rw [List.getElem?_set_self hjl]⟩, ?_⟩
        have : E[j] = p := (List.getElem?_eq_some_iff.1 h3).2
        rw [← e, this, h4]
      · exact ⟨q, List.mem_iff_getElem?.2 ⟨i, by rw [List.getElem?_set_ne e2, List.getElem?_eq_getElem hi, e]⟩, rfl⟩
end Go.Proofs.Ytebnekicbcdnaaa
