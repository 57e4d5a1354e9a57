/- Lists of lists of numbers in memory: how they are read, how a call owns them. -/
import Derived.Test.YtebnekicbcdnaaaGen
import Derived.Test.YtebnekicbcdnaaaApp
set_option linter.all false
namespace Go.Proofs.Ytebnekicbcdnaaa
open Go.RowKit

/-- A row of numbers: where it lies, its room, its numbers. -/
structure Rw where
  A : Option Addr
  c : Nat
  L : List Int
def Rw.val (r : Rw) : Value := .slice r.A r.L.length r.c
def vals (R : List Rw) : List Value := R.map Rw.val
def lists (R : List Rw) : List (List Int) := R.map (·.L)
theorem vals_len (R : List Rw) : (vals R).length = R.length := by simp [vals]
theorem lists_len (R : List Rw) : (lists R).length = R.length := by simp [lists]
theorem vals_app (R S : List Rw) : vals (R ++ S) = vals R ++ vals S := by simp [vals]
theorem lists_app (R S : List Rw) : lists (R ++ S) = lists R ++ lists S := by simp [lists]
theorem vals_one (R : List Rw) : ∀ u ∈ vals R, u.oneCell' = true := by
  intro u hu
  simp only [vals, List.mem_map] at hu
  obtain ⟨r, _, rfl⟩ := hu
  rfl

/-- How many numbers there are in all. -/
def tot : List (List Int) → Nat
  | [] => 0
  | l :: r => l.length + tot r
theorem tot_app (M N : List (List Int)) : tot (M ++ N) = tot M + tot N := by
  induction M with
  | nil => simp [tot]
  | cons l r ih => simp [tot, ih]; omega
theorem tot_mem {M : List (List Int)} {l : List Int} (h : l ∈ M) : l.length ≤ tot M := by
  induction M with
  | nil => cases h
  | cons a r ih =>
    rcases List.mem_cons.1 h with rfl | h
    · simp [tot]
    · have := ih h; simp [tot]; omega
theorem tot_take_succ (M : List (List Int)) (k : Nat) (l : List Int) (h : M[k]? = some l) : tot (M.take (k + 1)) = tot (M.take k) + l.length := by
  rw [List.take_add_one, h, tot_app]; simp [tot]
theorem tot_take_le (M : List (List Int)) (k : Nat) : tot (M.take k) ≤ tot M := by
  conv => rhs; rw [← List.take_append_drop k M]
  rw [tot_app]; omega

/-- Row i of a slice at address A lies below block B, and so do its numbers. -/
def RowsAt (w : World) (B : Nat) (A : Option Addr) (M : List (List Int)) : Prop :=
  ∀ i l, M[i]? = some l → ∃ b off A' c, A = some ⟨b, off, none⟩ ∧ b < B ∧ w.cell? ⟨b, off + i, none⟩ = some (.slice A' l.length c) ∧ l.length ≤ c ∧ IntsAt w B A' l
theorem RowsAt.below {w w' : World} {B : Nat} {A : Option Addr} {M : List (List Int)} (h : RowsAt w B A M) (hb : Below B w w') : RowsAt w' B A M := by
  intro i l hl
  obtain ⟨b, off, A', c, e, hB, c0, hc, hi⟩ := h i l hl
  exact ⟨b, off, A', c, e, hB, (hb.cell (p := ⟨b, _, none⟩) hB).trans c0, hc, hi.below hb⟩
theorem RowsAt.mono {w : World} {B B' : Nat} {A : Option Addr} {M : List (List Int)} (h : RowsAt w B A M) (hB : B ≤ B') : RowsAt w B' A M := by
  intro i l hl
  obtain ⟨b, off, A', c, e, hb, c0, hc, hi⟩ := h i l hl
  exact ⟨b, off, A', c, e, by omega, c0, hc, hi.mono hB⟩

theorem own_blk {w w' : World} {base : Nat} {e : TypeId} {size n : Nat} {v : Value} {xs : List Value} (h : w.ownsRow base e size v n xs) (hk : ∀ k, v.ownBlock = some k → w'.heap[k]? = w.heap[k]?) : w'.ownsRow base e size v n xs := by
  refine ⟨h.1, ?_⟩
  rcases h.2 with hn | ⟨g, cap, cur, rfl, hg, hh, rest⟩
  · exact .inl hn
  · exact .inr ⟨g, cap, cur, rfl, hg, (hk g rfl).trans hh, rest⟩

/-- Rows of numbers of the call's own, each in a block of its own. -/
structure InRows (w : World) (base : Nat) (R : List Rw) : Prop where
  own : ∀ r ∈ R, w.ownsRow base 3 1 r.val r.L.length (ints r.L)
  apart : R.Pairwise fun r s => ∀ k, r.val.ownBlock = some k → s.val.ownBlock ≠ some k
/-- No row lies in the block of v. -/
def Away (v : Value) (R : List Rw) : Prop := ∀ r ∈ R, ∀ k, r.val.ownBlock = some k → v.ownBlock ≠ some k
theorem InRows.nil (w : World) (base : Nat) : InRows w base [] := ⟨fun r h => by simp at h, List.Pairwise.nil⟩
theorem Away.nil (v : Value) : Away v [] := fun r h => by simp at h
theorem InRows.blk {w w' : World} {base : Nat} {R : List Rw} (h : InRows w base R) (hk : ∀ r ∈ R, ∀ k, r.val.ownBlock = some k → w'.heap[k]? = w.heap[k]?) : InRows w' base R :=
  ⟨fun r hr => own_blk (h.own r hr) (hk r hr), h.apart⟩
theorem InRows.lt {w : World} {base : Nat} {R : List Rw} (h : InRows w base R) {r : Rw} (hr : r ∈ R) {k : Nat} (hk : r.val.ownBlock = some k) : base ≤ k ∧ k < w.heap.size := (h.own r hr).lt k hk
theorem InRows.below {w w' : World} {base B : Nat} {R : List Rw} (h : InRows w base R) (hb : Below B w w') (hB : w.heap.size ≤ B) : InRows w' base R :=
  h.blk fun r hr k hk => hb.block k (by have := (h.lt hr hk).2; omega)
theorem InRows.base {w : World} {base base' : Nat} {R : List Rw} (h : InRows w base R) (hb : base' ≤ base) : InRows w base' R := ⟨fun r hr => own_base (h.own r hr) hb, h.apart⟩
theorem InRows.grown {w w' : World} {base : Nat} {R : List Rw} {v : Value} (h : InRows w base R) (ha : Away v R) (hg : w.grownBy w' v.ownBlock) : InRows w' base R :=
  h.blk fun r hr k hk => hg.block k (h.lt hr hk).2 (fun e => ha r hr k hk e.symm)
theorem InRows.snoc {w : World} {base : Nat} {R : List Rw} {r : Rw} (h : InRows w base R) (ho : w.ownsRow base 3 1 r.val r.L.length (ints r.L)) (hn : ∀ k, r.val.ownBlock = some k → ∀ s ∈ R, s.val.ownBlock ≠ some k) : InRows w base (R ++ [r]) := by
  refine ⟨fun s hs => ?_, ?_⟩
  · rcases List.mem_append.1 hs with hs | hs
    · exact h.own s hs
    · rw [List.mem_singleton.1 hs]; exact ho
  · rw [List.pairwise_append]
    refine ⟨h.apart, List.pairwise_singleton _ _, fun s hs t ht k hk e => ?_⟩
    rw [List.mem_singleton.1 ht] at e
    exact hn k e s hs hk
theorem Away.snoc {v : Value} {R : List Rw} {r : Rw} (h : Away v R) (hn : ∀ k, r.val.ownBlock = some k → v.ownBlock ≠ some k) : Away v (R ++ [r]) := by
  intro s hs k hk
  rcases List.mem_append.1 hs with hs | hs
  · exact h s hs k hk
  · rw [List.mem_singleton.1 hs] at hk; exact hn k hk
theorem Away.other {v v' : Value} {w : World} {base : Nat} {R : List Rw} (h : Away v R) (hR : InRows w base R) (hv : v'.ownBlock = v.ownBlock ∨ ∃ k, v'.ownBlock = some k ∧ w.heap.size ≤ k) : Away v' R := by
  intro r hr k hk
  rcases hv with e | ⟨k', e, hk'⟩
  · rw [e]; exact h r hr k hk
  · rw [e]; intro e'; cases e'; have := (hR.lt hr hk).2; omega

/-- A slice of rows of the call's own. -/
structure OwnSS (w : World) (base : Nat) (A : Option Addr) (n c : Nat) (R : List Rw) : Prop where
  len : n = R.length
  outer : w.ownsRow base 25 1 (.slice A n c) n (vals R)
  inner : InRows w base R
  away : Away (.slice A n c) R
/-- The blocks of a slice of rows. -/
def Blk (A : Option Addr) (n c : Nat) (R : List Rw) (k : Nat) : Prop := (Value.slice A n c).ownBlock = some k ∨ ∃ r ∈ R, r.val.ownBlock = some k
section
variable {w w' : World} {base : Nat} {A : Option Addr} {n c : Nat} {R : List Rw}
theorem OwnSS.nil (w : World) (base : Nat) : OwnSS w base none 0 0 [] := ⟨rfl, World.ownsRow_nil _ _ _ _, InRows.nil _ _, Away.nil _⟩
theorem OwnSS.lt (h : OwnSS w base A n c R) {k : Nat} (hk : Blk A n c R k) : base ≤ k ∧ k < w.heap.size := by
  rcases hk with hk | ⟨r, hr, hk⟩
  · exact h.outer.lt k hk
  · exact h.inner.lt hr hk
theorem OwnSS.blk (h : OwnSS w base A n c R) (hk : ∀ k, Blk A n c R k → w'.heap[k]? = w.heap[k]?) : OwnSS w' base A n c R :=
  ⟨h.len, own_blk h.outer fun k e => hk k (.inl e), h.inner.blk fun r hr k e => hk k (.inr ⟨r, hr, e⟩), h.away⟩
theorem OwnSS.keep (h : OwnSS w base A n c R) (hb : Below w.heap.size w w') : OwnSS w' base A n c R := h.blk fun k hk => hb.block k (h.lt hk).2
theorem OwnSS.based {base' : Nat} (h : OwnSS w base A n c R) (hb : base' ≤ base) : OwnSS w base' A n c R := ⟨h.len, own_base h.outer hb, h.inner.base hb, h.away⟩
theorem OwnSS.far (h : OwnSS w base A n c R) {row : Option Nat} (hg : w.grownBy w' row) (hne : ∀ k, Blk A n c R k → row ≠ some k) : OwnSS w' base A n c R :=
  h.blk fun k hk => hg.block k (h.lt hk).2 (fun e => hne k hk e.symm)
theorem OwnSS.cap (h : OwnSS w base A n c R) : n ≤ c := own_cap h.outer
theorem OwnSS.rows (h : OwnSS w base A n c R) : RowsAt w w.heap.size A (lists R) := by
  intro i l hl
  simp only [lists, List.getElem?_map, Option.map_eq_some_iff] at hl
  obtain ⟨r, hr, rfl⟩ := hl
  have hi : i < R.length := (List.getElem?_eq_some_iff.1 hr).1
  obtain ⟨g, rfl⟩ := own_form h.outer (by rw [h.len]; omega)
  have ho := h.inner.own r (List.mem_of_getElem? hr)
  refine ⟨g, 0, r.A, r.c, rfl, (own_lt h.outer).2, ?_, own_cap ho, ints_of_own ho⟩
  rw [Nat.zero_add, h.outer.cellAt i (by rw [h.len]; omega)]
  simp [vals, hr, Rw.val]
end

/-- A row more, behind the others. -/
theorem OwnSS.push {w w' : World} {base : Nat} {A : Option Addr} {n c : Nat} {R : List Rw} (h : OwnSS w base A n c R) (r : Rw) (ho : w.ownsRow base 3 1 r.val r.L.length (ints r.L))
    (hn : ∀ k, r.val.ownBlock = some k → ¬ Blk A n c R k) {v' : Value} (hout : w'.ownsRow base 25 1 v' (n + 1) (vals R ++ [r.val])) (hg : w.grownBy w' (Value.slice A n c).ownBlock)
    (hv : v'.ownBlock = (Value.slice A n c).ownBlock ∨ v'.ownBlock = some w.heap.size) : ∃ A' c', v' = .slice A' (n + 1) c' ∧ OwnSS w' base A' (n + 1) c' (R ++ [r]) := by
  obtain ⟨A', c', rfl⟩ := own_val hout
  have ho' : w'.ownsRow base 3 1 r.val r.L.length (ints r.L) := own_blk ho fun k hk => hg.block k (ho.lt k hk).2 (fun e => hn k hk (.inl e.symm))
  have hin := h.inner.grown h.away hg
  refine ⟨A', c', rfl, by simp [h.len], by rw [vals_app]; exact hout, hin.snoc ho' (fun k hk s hs e => hn k hk (.inr ⟨s, hs, e⟩)), ?_⟩
  refine (h.away.other h.inner (v' := .slice A' (n + 1) c') ?_).snoc ?_
  · rcases hv with e | e
    · exact .inl e
    · exact .inr ⟨_, e, Nat.le_refl _⟩
  · intro k hk e
    rcases hv with e' | e'
    · rw [e'] at e; exact hn k hk (.inl e)
    · rw [e'] at e; cases e; exact Nat.lt_irrefl _ (ho.lt _ hk).2

/-- What a marking leaves: blocks that are not marked are as they were. -/
structure Kept (S : Nat → Prop) (w w' : World) : Prop where
  os : w'.os = w.os
  tape : w'.tape = w.tape
  output : w'.output = w.output
  size : w.heap.size ≤ w'.heap.size
  block : ∀ k, k < w.heap.size → ¬ S k → w'.heap[k]? = w.heap[k]?
theorem Kept.refl (S : Nat → Prop) (w : World) : Kept S w w := ⟨rfl, rfl, rfl, Nat.le_refl _, fun _ _ _ => rfl⟩
theorem Kept.step {S : Nat → Prop} {w w' w'' : World} {row : Option Nat} (h : Kept S w w') (hg : w'.grownBy w'' row) (hr : ∀ k, row = some k → S k) : Kept S w w'' :=
  ⟨hg.os.trans h.os, hg.tape.trans h.tape, hg.output.trans h.output, Nat.le_trans h.size hg.size, fun k hk hn => (hg.block k (Nat.lt_of_lt_of_le hk h.size) (fun e => hn (hr k e.symm))).trans (h.block k hk hn)⟩
theorem Kept.below {S : Nat → Prop} {w w' : World} {B : Nat} (h : Kept S w w') (hB : B ≤ w.heap.size) (hS : ∀ k, S k → B ≤ k) : Below B w w' :=
  ⟨h.os, h.tape, h.output, h.size, fun k hk => h.block k (by omega) (fun hs => by have := hS k hs; omega)⟩
theorem OwnSS.kept {w w' : World} {base : Nat} {A : Option Addr} {n c : Nat} {R : List Rw} {S : Nat → Prop} (h : OwnSS w base A n c R) (hK : Kept S w w') (hn : ∀ k, Blk A n c R k → ¬ S k) : OwnSS w' base A n c R :=
  h.blk fun k hk => hK.block k (h.lt hk).2 (hn k hk)
theorem own_kept {w w' : World} {base : Nat} {e : TypeId} {size n : Nat} {v : Value} {xs : List Value} {S : Nat → Prop} (h : w.ownsRow base e size v n xs) (hK : Kept S w w') (hn : ∀ k, v.ownBlock = some k → ¬ S k) : w'.ownsRow base e size v n xs :=
  own_blk h fun k hk => hK.block k (h.lt k hk).2 (hn k hk)

/-- The rows, marked from k on. -/
def Rw.mark (r : Rw) (k : Int) : Rw := ⟨r.A, r.c, upI k r.L.length⟩
theorem Rw.mark_val (r : Rw) (k : Int) : (r.mark k).val = r.val := by simp [Rw.mark, Rw.val, upI_len]
def mkR (k : Int) : List Rw → List Rw
  | [] => []
  | r :: R => r.mark k :: mkR (k + r.L.length) R
theorem mkR_snoc (k : Int) (R : List Rw) (r : Rw) : mkR k (R ++ [r]) = mkR k R ++ [r.mark (k + tot (lists R))] := by
  induction R generalizing k with
  | nil => simp [mkR, tot, lists]
  | cons s R ih =>
    simp only [List.cons_append, mkR, ih, lists, List.map_cons, tot]
    rw [show k + (s.L.length : Int) + (tot (List.map (·.L) R) : Int) = k + ((s.L.length + tot (List.map (·.L) R) : Nat) : Int) by omega]
theorem mkR_len (k : Int) (R : List Rw) : (mkR k R).length = R.length := by
  induction R generalizing k with
  | nil => rfl
  | cons s R ih => simp [mkR, ih]
theorem mkR_vals (k : Int) (R : List Rw) : vals (mkR k R) = vals R := by
  induction R generalizing k with
  | nil => rfl
  | cons s R ih => simp only [vals, mkR, List.map_cons, Rw.mark_val]; exact congrArg _ (ih _)
def mkM (k : Int) : List (List Int) → List (List Int)
  | [] => []
  | l :: M => upI k l.length :: mkM (k + l.length) M
theorem mkM_lists (k : Int) (R : List Rw) : lists (mkR k R) = mkM k (lists R) := by
  induction R generalizing k with
  | nil => rfl
  | cons s R ih => simp only [lists, mkR, mkM, List.map_cons, Rw.mark]; exact congrArg _ (ih _)
theorem mkM_get (k : Int) (M : List (List Int)) (i : Nat) (l : List Int) (h : M[i]? = some l) : (mkM k M)[i]? = some (upI (k + tot (M.take i)) l.length) := by
  induction M generalizing k i with
  | nil => simp at h
  | cons a M ih =>
    cases i with
    | zero => simp at h; subst h; simp [mkM, tot]
    | succ i =>
      have := ih (k + a.length) i (by simpa using h)
      simp only [mkM, List.getElem?_cons_succ, this, List.take_succ_cons, tot]
      rw [show k + (a.length : Int) + (tot (List.take i M) : Int) = k + ((a.length + tot (List.take i M) : Nat) : Int) by omega]

/-- One row of many is marked. -/
theorem OwnSS.marked {w w' : World} {base : Nat} {A : Option Addr} {n c : Nat} {P S : List Rw} {r : Rw} {k0 : Int} (h : OwnSS w base A n c (P ++ r :: S)) (hg : w.grownBy w' r.val.ownBlock)
    (ho : w'.ownsRow base 3 1 r.val r.L.length (ints (upI k0 r.L.length))) : OwnSS w' base A n c (P ++ r.mark k0 :: S) := by
  have hv : vals (P ++ r.mark k0 :: S) = vals (P ++ r :: S) := by simp [vals, Rw.mark_val]
  have hap := h.inner.apart
  have haw := h.away
  refine ⟨by simp [h.len], ?_, ⟨fun s hs => ?_, ?_⟩, ?_⟩
  · rw [hv]
    exact own_blk h.outer fun k hk => hg.block k (h.outer.lt k hk).2 (fun e => haw r (by simp) k e.symm hk)
  · rcases List.mem_append.1 hs with hs' | hs'
    · have hin : s ∈ P ++ r :: S := List.mem_append.2 (.inl hs')
      refine own_blk (h.inner.own s hin) fun k hk => hg.block k (h.inner.lt hin hk).2 (fun e => ?_)
      exact (List.pairwise_append.1 hap).2.2 s hs' r (by simp) k hk e.symm
    · rcases List.mem_cons.1 hs' with rfl | hs''
      · rw [Rw.mark_val, Rw.mark, upI_len]; exact ho
      · have hin : s ∈ P ++ r :: S := List.mem_append.2 (.inr (List.mem_cons.2 (.inr hs'')))
        refine own_blk (h.inner.own s hin) fun k hk => hg.block k (h.inner.lt hin hk).2 (fun e => ?_)
        exact (List.pairwise_cons.1 (List.pairwise_append.1 hap).2.1).1 s hs'' k e.symm hk
  · have h1 : (vals (P ++ r :: S)).Pairwise fun u v => ∀ k, u.ownBlock = some k → v.ownBlock ≠ some k := List.pairwise_map.2 hap
    rw [← hv] at h1
    exact List.pairwise_map.1 h1
  · intro s hs k hk
    have : s.val ∈ vals (P ++ r :: S) := by rw [← hv]; exact List.mem_map.2 ⟨s, hs, rfl⟩
    obtain ⟨s', hs', e⟩ := List.mem_map.1 this
    exact haw s' hs' k (by rw [e]; exact hk)
theorem blk_marks {A : Option Addr} {n c : Nat} {R : List Rw} {k0 : Int} {k : Nat} : Blk A n c (mkR k0 R) k ↔ Blk A n c R k := by
  have h : ∀ Q : List Rw, (∃ r ∈ Q, r.val.ownBlock = some k) ↔ ∃ u ∈ vals Q, u.ownBlock = some k := fun Q => ⟨fun ⟨r, hr, e⟩ => ⟨_, List.mem_map.2 ⟨r, hr, rfl⟩, e⟩, fun ⟨_, hu, e⟩ => by obtain ⟨r, hr, rfl⟩ := List.mem_map.1 hu; exact ⟨r, hr, e⟩⟩
  unfold Blk
  rw [h, h, mkR_vals]

/-- It returns a list of lists of numbers in memory of the call's own, and a bool. -/
def RetSS (w : World) (M : List (List Int)) (ok : Bool) (e : Ending) (w' : World) : Prop :=
  ∃ A c R, e = .returned (.tuple #[.slice A M.length c, .bool ok]) ∧ lists R = M ∧ OwnSS w' w.heap.size A M.length c R ∧ Below w.heap.size w w'
theorem RetSS.none_ {w w' : World} (hb : Below w.heap.size w w') : RetSS w [] false (.returned (.tuple #[.slice none 0 0, .bool false])) w' :=
  ⟨none, 0, [], rfl, rfl, OwnSS.nil _ _, hb⟩
theorem RetSS.mk {w w' : World} {A : Option Addr} {n c : Nat} {R : List Rw} {M : List (List Int)} {ok : Bool} (hM : lists R = M) (ho : OwnSS w' w.heap.size A n c R) (hb : Below w.heap.size w w') : RetSS w M ok (.returned (.tuple #[.slice A n c, .bool ok])) w' := by
  have h := ho.len
  rw [← lists_len, hM] at h
  subst h
  exact ⟨A, c, R, rfl, hM, ho, hb⟩
/-- The same without a bool. -/
def RetSSv (w : World) (M : List (List Int)) (e : Ending) (w' : World) : Prop :=
  ∃ A c R, e = .returned (.slice A M.length c) ∧ lists R = M ∧ OwnSS w' w.heap.size A M.length c R ∧ Below w.heap.size w w'
theorem RetSSv.mk {w w' : World} {A : Option Addr} {n c : Nat} {R : List Rw} {M : List (List Int)} (hM : lists R = M) (ho : OwnSS w' w.heap.size A n c R) (hb : Below w.heap.size w w') : RetSSv w M (.returned (.slice A n c)) w' := by
  have h := ho.len
  rw [← lists_len, hM] at h
  subst h
  exact ⟨A, c, R, rfl, hM, ho, hb⟩
theorem new1 (w : World) (a : Value) (t : TypeId) : ∀ j u, [a][j]? = some u → (w.alloc (.cells #[a] t)).cell? ((⟨w.heap.size, 0, none⟩ : Addr).add j) = some u := by
  intro j u hj
  match j, hj with
  | 0, hj => simp at hj; subst hj; simp [Addr.add]
theorem new1' (w : World) (o : Obj) (a : Value) (t : TypeId) : ∀ j u, [a][j]? = some u → ((w.alloc o).alloc (.cells #[a] t)).cell? ((⟨w.heap.size + 1, 0, none⟩ : Addr).add j) = some u := by
  intro j u hj
  match j, hj with
  | 0, hj => simp at hj; subst hj; simp [Addr.add]
theorem one1 (r : Value) (h : r.oneCell' = true) : ∀ u ∈ [r], u.oneCell' = true := by
  intro u hu; simp at hu; subst hu; exact h
theorem infoSl : (Try.prog.info? 25).map (fun i => (i.zero, i.size, i.bytes)) = some (some (.slice none 0 0), 1, 24) := by kernel_rfl
end Go.Proofs.Ytebnekicbcdnaaa
