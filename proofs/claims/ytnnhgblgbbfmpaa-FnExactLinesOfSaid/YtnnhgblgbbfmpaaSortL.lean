/- The library's sort of lists of numbers, in the words of rows that a call owns. -/
import Derived.Test.YtnnhgblgbbfmpaaOrd
import Derived.Test.YtnnhgblgbbfmpaaShelf
set_option linter.all false
namespace Go.Proofs.Ytnnhgblgbbfmpaa
open Go.RowKit Go.Sort Go.Shelf Go.Lib

section
variable {α : Type} [Inhabited α] {enc : α → Value}
theorem holds_E {w : World} {g : Nat} {cur : Array Value} {e : TypeId} {ss : List α} (hb : w.heap[g]? = some (.cells cur e (0, 0))) (ht : cur.toList.take ss.length = ss.map enc) : Holds enc w g 0 ss.toArray := by
  intro j hj
  have hj' : j < ss.length := by simpa using hj
  refine ⟨?_, by simp [World.frozen?, hb]⟩
  have h1 : (cur.toList.take ss.length)[j]? = (ss.map enc)[j]? := by rw [ht]
  rw [List.getElem?_take_of_lt hj'] at h1
  simp only [World.cell?, hb, Nat.zero_add]
  simp only [Option.isSome_none, Bool.false_eq_true, if_false]
  rw [← Array.getElem?_toList, h1]
  simp [hj']
theorem heap_E {w : World} {g n : Nat} {os : Array Obj} {cur : Array Value} {e : TypeId} {fr : Nat × Nat} (d : Array α) (hb : w.heap[g]? = some (.cells cur e fr)) :
    (sortWorld enc w g 0 n d os).heap[g]? = some (.cells (putCells enc 0 d cur) e fr) := by
  have hg : g < w.heap.size := (Array.getElem?_eq_some_iff.1 hb).1
  unfold sortWorld
  rw [heap_grow_old _ _ (by simpa using hg)]
  simp [putRow, mapBlock, Sort.ahead, Array.getElem?_modify, hb, onCells]
theorem grown_E {w : World} {g n : Nat} {os : Array Obj} (d : Array α) : w.grownBy (sortWorld enc w g 0 n d os) (some g) := by
  unfold sortWorld
  refine ⟨rfl, rfl, rfl, by simp, fun k hk hne => ?_⟩
  rw [heap_grow_old _ _ (by simpa using hk)]
  have : g ≠ k := fun e => hne (by rw [e])
  simp [putRow, mapBlock, Sort.ahead, Array.getElem?_modify, this]
theorem take_E (cur : Array Value) (ts : List α) (h : ts.length ≤ cur.size) : (putCells enc 0 ts.toArray cur).toList.take ts.length = ts.map enc := by
  apply List.ext_getElem?
  intro j
  by_cases hj : j < ts.length
  · rw [List.getElem?_take_of_lt hj, Array.getElem?_toList]
    simp [putCells, hj, show j < cur.size by omega]
  · rw [List.getElem?_take_eq_none (by omega), List.getElem?_eq_none (by simp; omega)]
theorem own_E {w : World} {base g cap n m : Nat} {e : TypeId} {os : Array Obj} {cur : Array Value} {ts : List α} (hl : ts.length = m) (hbase : base ≤ g) (hb : w.heap[g]? = some (.cells cur e (0, 0)))
    (h1 : m ≤ cap) (h2 : cap ≤ maxLen) (h3 : cur.size = cap * 1) :
    (sortWorld enc w g 0 n ts.toArray os).ownsRow base e 1 (.slice (some ⟨g, 0, none⟩) m cap) m (ts.map enc) :=
  ⟨by simp [hl], .inr ⟨g, cap, _, rfl, hbase, heap_E _ hb, h1, h2, by simp [putCells, h3], by rw [Nat.mul_one, ← hl]; exact take_E cur ts (by omega)⟩⟩
end

theorem ltOf_L {α : Type} (f : α → List Int) (a b : α) : ltOf (fun x y => cmpL (f x) (f y)) a b = ltL (f a) (f b) := by
  unfold ltOf
  rw [Bool.eq_iff_iff, decide_eq_true_iff, cmpL_lt]
theorem swo_L {α : Type} (f : α → List Int) : SWO (ltOf fun x y : α => cmpL (f x) (f y)) where
  irrefl x := by rw [ltOf_L, ltL_irr]
  trans x y z h1 h2 := by rw [ltOf_L] at *; exact ltL_trans _ _ _ h1 h2
  ntrans x y z h1 h2 := by
    rw [ltOf_L] at *
    have := leL_trans (f z) (f y) (f x) (leL_iff.2 h2) (leL_iff.2 h1)
    exact leL_iff.1 this

/-- Behind the sort the same slice holds the same rows, in their order. -/
def SortsL (w : World) (base : Nat) (A : Option Addr) (n c : Nat) (R : List Rw) (e : Ending) (w' : World) : Prop :=
  e = .returned (.tuple #[]) ∧ ∃ T : List Rw, T.Perm R ∧ T.Pairwise (fun a b => leL a.L b.L = true) ∧ OwnSS w' base A n c T ∧ w.grownBy w' (Value.slice A n c).ownBlock
theorem OwnSS.perm {w w' : World} {base : Nat} {A : Option Addr} {n c : Nat} {R T : List Rw} (h : OwnSS w base A n c R) (hp : T.Perm R) (ho : w'.ownsRow base 52 1 (.slice A n c) n (vals T)) (hg : w.grownBy w' (Value.slice A n c).ownBlock) : OwnSS w' base A n c T := by
  refine ⟨by rw [hp.length_eq]; exact h.len, ho, ⟨fun r hr => ?_, ?_⟩, fun r hr => h.away r (hp.mem_iff.1 hr)⟩
  · have hr' := hp.mem_iff.1 hr
    exact own_blk (h.inner.own r hr') fun k hk => hg.block k (h.inner.lt hr' hk).2 (fun e => h.away r hr' k hk e.symm)
  · exact (hp.pairwise_iff (fun {a b} hab k hk e => hab k e hk)).2 h.inner.apart
theorem sortL_any (A : Option Addr) (n c base : Nat) (R : List Rw) (w : World) (hn : n ≤ 1048576) (hm : ∀ r ∈ R, r.L.length ≤ 1048576) (ho : OwnSS w base A n c R) :
    Calls Try.prog 78 #[.slice A n c, .func (.func 79) #[] #[]] w (SortsL w base A n c R) := by
  have hlen := ho.len
  rcases Nat.eq_zero_or_pos n with rfl | hpos
  · have hR : R = [] := List.eq_nil_of_length_eq_zero hlen.symm
    subst hR
    refine (Try.slices_SortFunc_none (α := Nat) A c _ w).mono ?_
    rintro e w' ⟨rfl, rfl⟩
    exact ⟨rfl, [], List.Perm.refl _, List.Pairwise.nil, ho, grown_refl _ _⟩
  · rcases ho.outer.2 with ⟨hv, h0⟩ | ⟨g, cap, cur, hv, hbase, hh, h1, h2, h3, h4⟩
    · omega
    · cases hv
      obtain ⟨r0, hr0⟩ : ∃ r, r ∈ R := List.exists_mem_of_length_pos (by omega)
      letI : Inhabited {r : Rw // r ∈ R} := ⟨⟨r0, hr0⟩⟩
      have hatt : R.attach.map (fun x => x.1.val) = vals R := by
        have : R.attach.map (fun x => x.1.val) = (R.attach.map Subtype.val).map Rw.val := by rw [List.map_map]; rfl
        rw [this, List.attach_map_subtype_val]; rfl
      have hal : R.attach.length = n := by rw [List.length_attach]; exact hlen.symm
      have eg : ∀ args w, (callFunc 79 args).run Try.prog w = .ok (.enter 79 args) w := enters_of Try.func79 (by kernel_rfl) rfl
      have hcmp : CmpLays1 Try.prog 79 #[] (fun x : {r : Rw // r ∈ R} => x.1.val) (fun x y => cmpL x.1.L y.1.L) g 0 R.attach.toArray.size w := by
        intro m os dk _ x y
        have hgr : w.grownBy (sortWorld (fun x : {r : Rw // r ∈ R} => x.1.val) w g 0 m dk os) (some g) := grown_E dk
        have hrow : ∀ z : {r : Rw // r ∈ R}, IntsAt (sortWorld (fun x : {r : Rw // r ∈ R} => x.1.val) w g 0 m dk os) (sortWorld (fun x : {r : Rw // r ∈ R} => x.1.val) w g 0 m dk os).heap.size z.1.A z.1.L := fun z =>
          ints_of_own (own_blk (ho.inner.own z.1 z.2) fun k hk => hgr.block k (ho.inner.lt z.2 hk).2 (fun e => ho.away z.1 z.2 k hk e.symm))
        refine (compareL_any x.1.A y.1.A x.1.L.length y.1.L.length x.1.c y.1.c x.1.L y.1.L _ rfl rfl (hm _ x.2) (hm _ y.2) (hrow x) (hrow y)).mono ?_
        rintro e w' ⟨rfl, rfl⟩
        exact ⟨rfl, 0, #[], by rw [grow_empty]; rfl⟩
      have hH : Holds (fun x : {r : Rw // r ∈ R} => x.1.val) w g 0 R.attach.toArray := holds_E hh (by rw [hal, hatt]; simpa using h4)
      have CS := Try.slices_SortFunc (fun x : {r : Rw // r ∈ R} => x.1.val) (fun _ => rfl) (fun x y => cmpL x.1.L y.1.L) (swo_L fun x : {r : Rw // r ∈ R} => x.1.L) 79 #[] g 0 c R.attach.toArray w eg hcmp hH (Array.getElem?_eq_some_iff.1 hh).1 (by simp; omega)
      have hsz : R.attach.toArray.size = n := by simpa using hal
      rw [hsz] at CS
      refine CS.mono ?_
      rintro e w' ⟨rfl, d', nn, os, hp, hs, rfl⟩
      obtain ⟨hsz', _, hperm⟩ := hp
      have e1 : d'.extract 0 n = d' := by rw [← hsz, ← hsz']; exact Array.extract_size
      have e2 : R.attach.toArray.extract 0 n = R.attach.toArray := by rw [← hsz]; exact Array.extract_size
      rw [e1, e2] at hperm
      obtain ⟨T⟩ := d'
      have hT : T.Perm R.attach := hperm
      have hTl : T.length = n := by rw [hT.length_eq]; exact hal
      have hTR : (T.map Subtype.val).Perm R := by
        have := hT.map Subtype.val
        rwa [List.attach_map_subtype_val] at this
      refine ⟨rfl, T.map Subtype.val, hTR, ?_, ho.perm hTR ?_ (grown_E _), grown_E _⟩
      · rw [List.pairwise_iff_getElem]
        intro i j hi hj hij
        rw [List.length_map] at hi hj
        have := hs i j (Nat.zero_le _) hij (by omega)
        rw [ltOf_L (fun x : {r : Rw // r ∈ R} => x.1.L)] at this
        have ei : (T.toArray)[i]! = T[i] := by simp [hi]
        have ej : (T.toArray)[j]! = T[j] := by simp [hj]
        rw [ei, ej] at this
        simp only [List.getElem_map]
        exact leL_iff.2 this
      · have := own_E (enc := fun x : {r : Rw // r ∈ R} => x.1.val) (n := nn) (os := os) hTl hbase hh h1 h2 h3
        have e3 : T.map (fun x => x.1.val) = vals (T.map Subtype.val) := by simp [vals]
        rw [e3] at this
        exact this
end Go.Proofs.Ytnnhgblgbbfmpaa
