/- The library's sort of squares, in the words of rows that a call owns. -/
import Derived.Test.YtebnekicbcdnaaaGeo
import Derived.Test.YtebnekicbcdnaaaSortLay
import Derived.Test.YtebnekicbcdnaaaMark
import Derived.Shelf.SlSortCmp.NoneTotal
import Derived.Sort.OwnSortedInts
import Derived.Test.YtebnekicbcdnaaaGen
set_option linter.all false
namespace Go.Proofs.Ytebnekicbcdnaaa
open Go.RowKit Go.Sort Go.Shelf Go.Lib

def encSq (s : Sq) : List Value := [.int .i64 s.x, .int .i64 s.y, .int .i64 s.d]
theorem encSq_len (s : Sq) : (encSq s).length = 3 := rfl
theorem encSq_one (s : Sq) : ∀ v ∈ encSq s, v.oneCell' = true := by
  intro v hv; simp [encSq] at hv; rcases hv with rfl | rfl | rfl <;> rfl
theorem flatK_sq (L : List Sq) : flatK encSq 3 L.toArray = (flat L).toArray := by
  apply Array.ext
  · simp [flat_len]
  · intro t h1 h2
    have ht : t < L.length * 3 := by simpa using h1
    have hi : t / 3 < L.length := by omega
    have f := flat_get L (t / 3) L[t / 3] (List.getElem?_eq_getElem hi)
    have e1 : (flatK encSq 3 L.toArray)[t] = (flatK encSq 3 L.toArray)[t]! := (getElem!_pos _ t h1).symm
    rw [e1, get_flatK encSq 3 L.toArray t (by simpa using ht)]
    have e2 : L.toArray[t / 3]! = L[t / 3] := by simp [hi]
    rw [e2]
    have h3 : t % 3 = 0 ∨ t % 3 = 1 ∨ t % 3 = 2 := by omega
    have hv : ∀ v, (flat L)[t]? = some v → (flat L).toArray[t] = v := by
      intro v hv
      have : (flat L).toArray[t]? = some v := by simpa using hv
      exact (Array.getElem?_eq_some_iff.1 this).2
    rcases h3 with h | h | h
    · have e : (flat L)[t]? = some (.int .i64 L[t / 3].x) := by have := f.1; rwa [show t / 3 * 3 = t by omega] at this
      rw [h, hv _ e]; rfl
    · have e : (flat L)[t]? = some (.int .i64 L[t / 3].y) := by have := f.2.1; rwa [show t / 3 * 3 + 1 = t by omega] at this
      rw [h, hv _ e]; rfl
    · have e : (flat L)[t]? = some (.int .i64 L[t / 3].d) := by have := f.2.2; rwa [show t / 3 * 3 + 2 = t by omega] at this
      rw [h, hv _ e]; rfl

theorem holds_id {w : World} {g : Nat} {cur : Array Value} {e : TypeId} {xs : List Value} (hb : w.heap[g]? = some (.cells cur e (0, 0))) (ht : cur.toList.take xs.length = xs) : Holds id w g 0 xs.toArray := by
  intro j hj
  have hj' : j < xs.length := by simpa using hj
  refine ⟨?_, by simp [World.frozen?, hb]⟩
  have h1 : (cur.toList.take xs.length)[j]? = xs[j]? := by rw [ht]
  rw [List.getElem?_take_of_lt hj'] at h1
  simp only [World.cell?, hb, Nat.zero_add]
  simp only [Option.isSome_none, Bool.false_eq_true, if_false]
  rw [← Array.getElem?_toList, h1]
  simp [hj']
theorem heap_id {w : World} {g n : Nat} {os : Array Obj} {cur : Array Value} {e : TypeId} {fr : Nat × Nat} (d : Array Value) (hb : w.heap[g]? = some (.cells cur e fr)) :
    (grow (putRow id (Sort.ahead w n) g 0 d) os).heap[g]? = some (.cells (putCells id 0 d cur) e fr) := by
  have hg : g < w.heap.size := (Array.getElem?_eq_some_iff.1 hb).1
  rw [heap_grow_old _ _ (by simpa using hg)]
  simp [putRow, mapBlock, Sort.ahead, Array.getElem?_modify, hb, onCells]
theorem grownBy_id {w : World} {g n : Nat} {os : Array Obj} (d : Array Value) : w.grownBy (grow (putRow id (Sort.ahead w n) g 0 d) os) (some g) := by
  refine ⟨rfl, rfl, rfl, by simp, fun k hk hne => ?_⟩
  rw [heap_grow_old _ _ (by simpa using hk)]
  have : g ≠ k := fun e => hne (by rw [e])
  simp [putRow, mapBlock, Sort.ahead, Array.getElem?_modify, this]
theorem take_putId (cur : Array Value) (ts : List Value) (h : ts.length ≤ cur.size) : (putCells id 0 ts.toArray cur).toList.take ts.length = ts := by
  apply List.ext_getElem?
  intro j
  by_cases hj : j < ts.length
  · rw [List.getElem?_take_of_lt hj, Array.getElem?_toList]
    simp [putCells, hj, show j < cur.size by omega]
  · rw [List.getElem?_take_eq_none (by omega), List.getElem?_eq_none (by omega)]
theorem own_sortedK {w : World} {base g cap n nn : Nat} {e : TypeId} {os : Array Obj} {cur : Array Value} {T : List Sq} (hl : T.length = n) (hbase : base ≤ g) (hb : w.heap[g]? = some (.cells cur e (0, 0)))
    (h1 : n ≤ cap) (h2 : cap ≤ maxLen) (h3 : cur.size = cap * 3) :
    (sortWorldK encSq 3 w g 0 nn T.toArray os).ownsRow base e 3 (.slice (some ⟨g, 0, none⟩) n cap) n (flat T) := by
  unfold sortWorldK putRowK
  rw [flatK_sq]
  have hf := flat_len T
  exact ⟨by rw [hf, hl], .inr ⟨g, cap, _, rfl, hbase, heap_id _ hb, h1, h2, by simp [putCells, h3], by rw [← hl, ← hf]; exact take_putId cur (flat T) (by omega)⟩⟩

/-- What a call that only makes memory does to the world. -/
def Gr (w w' : World) : Prop := ∃ q os', w' = grow (w.drewN q) os'
theorem Gr.refl (w : World) : Gr w w := ⟨0, #[], by rw [grow_empty]; rfl⟩
theorem Gr.alloc {w w' : World} (h : Gr w w') (o : Obj) : Gr w (w'.alloc o) := by
  obtain ⟨q, os, rfl⟩ := h
  exact ⟨q, os ++ #[o], by rw [alloc_eq_grow, grow_grow]⟩
theorem Gr.drew {w w' : World} (h : Gr w w') : Gr w w'.drew := by
  obtain ⟨q, os, rfl⟩ := h
  exact ⟨q + 1, os, rfl⟩

theorem compareCorners_gr (x y d x' y' d' : Int) (w : World) :
    Calls Try.prog 115 #[.agg #[.int .i64 x, .int .i64 y, .int .i64 d], .agg #[.int .i64 x', .int .i64 y', .int .i64 d']] w fun e w' =>
      e = .returned (.int .i64 (cmpC x y x' y')) ∧ Gr w w' := by
  go_enter Try.func115, Try.ntmps115
  go_wp2_with fail
  go_region_held3 (fun w' => w'.cell? ⟨w.heap.size, 0, none⟩ = some (.int .i64 x) ∧ w'.cell? ⟨w.heap.size, 1, none⟩ = some (.int .i64 y) ∧ w'.cell? ⟨w.heap.size + 1, 0, none⟩ = some (.int .i64 x') ∧ w'.cell? ⟨w.heap.size + 1, 1, none⟩ = some (.int .i64 y'))
    (simp [go_sem, World.cell?_alloc_past])
    (first
      | (go_at_call 123; refine (compare_any _ _ _).mono ?_; rintro e w' ⟨rfl, rfl⟩)
      | (go_at_call 122; refine (or_any (cmpI y y') (cmpI x x') _ _ (by simp [go_sem]) (by simp [go_sem])).mono ?_; rintro e w' ⟨rfl, rfl⟩))
  go_wp2_with fail
  go_ret
  exact ⟨rfl, by repeat (first | exact Gr.refl _ | refine Gr.alloc ?_ _ | refine Gr.drew ?_)⟩

def cfSq (a b : Sq) : Int := cmpC a.x a.y b.x b.y
theorem ltOf_sq (a b : Sq) : ltOf cfSq a b = decide (lt2 a b) := by
  unfold ltOf cfSq lt2
  exact decide_eq_decide.2 cmpC_lt
theorem swo_sq : SWO (ltOf cfSq) where
  irrefl x := by rw [ltOf_sq, decide_eq_false_iff_not]; exact fun h => lt2_irrefl h h
  trans x y z h1 h2 := by rw [ltOf_sq, decide_eq_true_iff] at *; exact lt2_trans h1 h2
  ntrans x y z h1 h2 := by
    rw [ltOf_sq, decide_eq_false_iff_not] at *
    unfold lt2 Less at *
    omega
theorem isAggSq : ∀ w, (isAgg 96).run Try.prog w = .ok true w := fun _ => by kernel_rfl
theorem sizeOfSq : ∀ w, (Go.sizeOf 96).run Try.prog w = .ok 3 w := fun _ => by kernel_rfl

/-- Behind the sort the same slice holds the same squares, in their order. -/
def Sorts (w : World) (base : Nat) (A : Option Addr) (n c : Nat) (L : List Sq) (e : Ending) (w' : World) : Prop :=
  e = .returned (.tuple #[]) ∧ ∃ T : List Sq, T.Perm L ∧ T.Pairwise (fun a b => leB a b = true) ∧ w'.ownsRow base 96 3 (.slice A n c) n (flat T) ∧ w.grownBy w' (Value.slice A n c).ownBlock
theorem sortSq_any (A : Option Addr) (n c base : Nat) (L : List Sq) (w : World) (hl : L.length = n) (hn : n ≤ 1048576) (ho : w.ownsRow base 96 3 (.slice A n c) n (flat L)) :
    Calls Try.prog 124 #[.slice A n c, .func (.func 115) #[] #[]] w (Sorts w base A n c L) := by
  subst hl
  rcases ho.2 with ⟨hv, h0⟩ | ⟨g, cap, cur, hv, hbase, hh, h1, h2, h3, h4⟩
  · simp only [Value.slice.injEq] at hv
    obtain ⟨rfl, _, rfl⟩ := hv
    have hL : L = [] := List.eq_nil_of_length_eq_zero h0
    subst hL
    refine (show Calls Try.prog 124 _ w _ from AnyF.slices_SortFunc_none Try.sortSq none 0 _ w).mono ?_
    rintro e w' ⟨rfl, rfl⟩
    exact ⟨rfl, [], List.Perm.refl _, List.Pairwise.nil, ho, grown_refl _ _⟩
  · cases hv
    have eg : ∀ args w, (callFunc 115 args).run Try.prog w = .ok (.enter 115 args) w := enters_of Try.func115 (by kernel_rfl) rfl
    have hcmp : CmpLays Try.prog 115 #[] encSq 3 cfSq g 0 L.toArray.size w := fun _ _ _ _ x y => compareCorners_gr x.x x.y x.d y.x y.y y.d _
    have hH : HoldsK encSq 3 w g 0 L.toArray := by
      unfold HoldsK
      rw [flatK_sq]
      exact holds_id hh (by rw [flat_len]; exact h4)
    refine (show Calls Try.prog 124 _ w _ from AnyQ.slices_SortFunc Try.sortSq 3 isAggSq sizeOfSq encSq encSq_len encSq_one cfSq swo_sq _ #[] g 0 c L.toArray w eg hcmp hH (Array.getElem?_eq_some_iff.1 hh).1 (by simp; omega)).mono ?_
    rintro e w' ⟨rfl, d', nn, os, hp, hs, rfl⟩
    obtain ⟨hsz, _, hperm⟩ := hp
    have e1 : d'.extract 0 L.toArray.size = d' := by rw [← hsz]; exact Array.extract_size
    rw [e1, Array.extract_size] at hperm
    obtain ⟨T⟩ := d'
    have hT : T.Perm L := hperm
    refine ⟨rfl, T, hT, ?_, own_sortedK hT.length_eq hbase hh h1 h2 h3, ?_⟩
    · rw [List.pairwise_iff_getElem]
      intro i j hi hj hij
      have := hs i j (Nat.zero_le _) hij (by have := hT.length_eq; simp; omega)
      rw [ltOf_sq] at this
      have ei : (T.toArray)[i]! = T[i] := by simp [hi]
      have ej : (T.toArray)[j]! = T[j] := by simp [hj]
      rw [ei, ej] at this
      unfold leB
      simpa using this
    · unfold sortWorldK putRowK
      exact grownBy_id _

/-- A cut of these lengths that has the squares of the row, in their order. -/
def RetIn (w : World) (base : Nat) (X Y : Int) (A : Option Addr) (n c : Nat) (L : List Sq) (e : Ending) (w' : World) : Prop :=
  ∃ T : List Sq, e = .returned (.agg #[.int .i64 X, .int .i64 Y, .slice A n c]) ∧ T.Perm L ∧ T.Pairwise (fun a b => leB a b = true) ∧ w'.ownsRow base 96 3 (.slice A n c) n (flat T) ∧ w.grownBy w' (Value.slice A n c).ownBlock
set_option maxRecDepth 100000 in
theorem inOrder_any (X Y : Int) (A : Option Addr) (n c base : Nat) (L : List Sq) (w : World) (hl : L.length = n) (hn : n ≤ 1048576) (ho : w.ownsRow base 96 3 (.slice A n c) n (flat L)) :
    Calls Try.prog 116 #[.int .i64 X, .int .i64 Y, .slice A n c] w (RetIn w base X Y A n c L) := by
  obtain ⟨W1, hW1⟩ : ∃ W1, W1 = w.alloc (.cells #[.int .i64 0, .int .i64 0, .slice none 0 0] 46) := ⟨_, rfl⟩
  have q1 : Bx w.heap.size W1 0 0 none 0 0 := by rw [hW1]; exact Bx.start _ _ _ _ _ _ _
  have qf : ∀ o, W1.frozen? ⟨w.heap.size, o, none⟩ = false := by intro o; rw [hW1]; exact World.frozen?_alloc_at _ _ _ _ rfl
  have ho1 : W1.ownsRow base 96 3 (.slice A n c) n (flat L) := by rw [hW1]; exact ho.alloc _
  have hg1 : w.grownBy W1 (Value.slice A n c).ownBlock := by rw [hW1]; exact World.grownBy_alloc w _ _
  have hne : (Value.slice A n c).ownBlock ≠ some w.heap.size := fun e => by have := ho.lt _ e; omega
  go_enter Try.func116, Try.ntmps116
  go_wp2_with fail
  rw [← hW1]
  refine (sortSq_any A n c base L W1 hl hn ho1).mono ?_
  rintro e w2 ⟨rfl, T, hT, hP, ho2, hg2⟩
  have q2 := q1.far hg2 hne
  have hlt := q1.lt
  have qf2 : ∀ o, w2.frozen? ⟨w.heap.size, o, none⟩ = false := fun o => (hg2.frozen_far ⟨w.heap.size, o, none⟩ hlt (fun e => hne e.symm)).trans (qf o)
  have hg := grown_trans hg1 hg2
  obtain ⟨_, r0, r1, r2⟩ := id q2
  have t0 := qf2 0
  have t1 := qf2 1
  have t2 := qf2 2
  clear q1 q2 qf qf2 ho1 hW1 hg1 hg2
  go_wp2_with fail
  have hb := (((Below.refl w.heap.size w2).setCell (p := ⟨w.heap.size, 0, none⟩) (Nat.le_refl _) (.int .i64 X)).setCell (p := ⟨w.heap.size, 1, none⟩) (Nat.le_refl _) (.int .i64 Y)).setCell (p := ⟨w.heap.size, 2, none⟩) (Nat.le_refl _) (.slice A n c)
  have R := ownsRow_setCell_other (ownsRow_setCell_other (ownsRow_setCell_other ho2 (a := ⟨w.heap.size, 0, none⟩) hne (.int .i64 X)) (a := ⟨w.heap.size, 1, none⟩) hne (.int .i64 Y)) (a := ⟨w.heap.size, 2, none⟩) hne (.slice A n c)
  refine bodyPost_ret (v := .agg #[.int .i64 X, .int .i64 Y, .slice A n c]) (by simp [results, Try.results116, go_sem, r0, r1, r2]) rfl ?_
  exact ⟨T, rfl, hT, hP, R, grown_below hg hb⟩
end Go.Proofs.Ytebnekicbcdnaaa
