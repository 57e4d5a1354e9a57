/- SS, SSL, Cross, CrossI: texts in one. -/
import Derived.Test.YtchabjmdjpfkfaaGreatGen
import Derived.Test.YtchabjmdjpfkfaaGreatApp
set_option linter.all false
namespace Go.Proofs.YtchabjmdjpfkfaaGreat
open Go.RowKit

/-- A row of numbers: where it lies, its room, its numbers. -/
structure Rw where
  A : Option Addr
  c : Nat
  L : List Int
def Rw.val (r : Rw) : Value := .slice r.A r.L.length r.c
def vals (R : List Rw) : List Value := R.map Rw.val
def lists (R : List Rw) : List (List Int) := R.map (·.L)
theorem vals_len (R : List Rw) : (vals R).length = R.length := by simp [vals]
theorem lists_len (R : List Rw) : (lists R).length = R.length := by simp [lists]
theorem vals_app (R S : List Rw) : vals (R ++ S) = vals R ++ vals S := by simp [vals]
theorem lists_app (R S : List Rw) : lists (R ++ S) = lists R ++ lists S := by simp [lists]
theorem vals_one (R : List Rw) : ∀ u ∈ vals R, u.oneCell' = true := by
  intro u hu
  simp only [vals, List.mem_map] at hu
  obtain ⟨r, _, rfl⟩ := hu
  rfl

/-- How many numbers there are in all. -/
def tot : List (List Int) → Nat
  | [] => 0
  | l :: r => l.length + tot r
theorem tot_app (M N : List (List Int)) : tot (M ++ N) = tot M + tot N := by
  induction M with
  | nil => simp [tot]
  | cons l r ih => simp [tot, ih]; omega
theorem tot_mem {M : List (List Int)} {l : List Int} (h : l ∈ M) : l.length ≤ tot M := by
  induction M with
  | nil => cases h
  | cons a r ih =>
    rcases List.mem_cons.1 h with rfl | h
    · simp [tot]
    · have := ih h; simp [tot]; omega
theorem tot_take_succ (M : List (List Int)) (k : Nat) (l : List Int) (h : M[k]? = some l) : tot (M.take (k + 1)) = tot (M.take k) + l.length := by
  rw [List.take_add_one, h, tot_app]; simp [tot]
theorem tot_take_le (M : List (List Int)) (k : Nat) : tot (M.take k) ≤ tot M := by
  conv => rhs; rw [← List.take_append_drop k M]
  rw [tot_app]; omega

/-- Row i of a slice at address A lies below block B, and so do its numbers. -/
def RowsAt (w : World) (B : Nat) (A : Option Addr) (M : List (List Int)) : Prop :=
  ∀ i l, M[i]? = some l → ∃ b off A' c, A = some ⟨b, off, none⟩ ∧ b < B ∧ w.cell? ⟨b, off + i, none⟩ = some (.slice A' l.length c) ∧ l.length ≤ c ∧ IntsAt w B A' l
theorem RowsAt.below {w w' : World} {B : Nat} {A : Option Addr} {M : List (List Int)} (h : RowsAt w B A M) (hb : Below B w w') : RowsAt w' B A M := by
  intro i l hl
  obtain ⟨b, off, A', c, e, hB, c0, hc, hi⟩ := h i l hl
  exact ⟨b, off, A', c, e, hB, (hb.cell (p := ⟨b, _, none⟩) hB).trans c0, hc, hi.below hb⟩
theorem RowsAt.mono {w : World} {B B' : Nat} {A : Option Addr} {M : List (List Int)} (h : RowsAt w B A M) (hB : B ≤ B') : RowsAt w B' A M := by
  intro i l hl
  obtain ⟨b, off, A', c, e, hb, c0, hc, hi⟩ := h i l hl
  exact ⟨b, off, A', c, e, by omega, c0, hc, hi.mono hB⟩

theorem own_blk {w w' : World} {base : Nat} {e : TypeId} {size n : Nat} {v : Value} {xs : List Value} (h : w.ownsRow base e size v n xs) (hk : ∀ k, v.ownBlock = some k → w'.heap[k]? = w.heap[k]?) : w'.ownsRow base e size v n xs := by
  refine ⟨h.1, ?_⟩
  rcases h.2 with hn | ⟨g, cap, cur, rfl, hg, hh, rest⟩
  · exact .inl hn
  · exact .inr ⟨g, cap, cur, rfl, hg, (hk g rfl).trans hh, rest⟩

/-- Rows of numbers of the call's own, each in a block of its own. -/
structure InRows (w : World) (base : Nat) (R : List Rw) : Prop where
  own : ∀ r ∈ R, w.ownsRow base 3 1 r.val r.L.length (ints r.L)
  apart : R.Pairwise fun r s => ∀ k, r.val.ownBlock = some k → s.val.ownBlock ≠ some k
/-- No row lies in the block of v. -/
def Away (v : Value) (R : List Rw) : Prop := ∀ r ∈ R, ∀ k, r.val.ownBlock = some k → v.ownBlock ≠ some k
theorem InRows.nil (w : World) (base : Nat) : InRows w base [] := ⟨fun r h => by simp at h, List.Pairwise.nil⟩
theorem Away.nil (v : Value) : Away v [] := fun r h => by simp at h
theorem InRows.blk {w w' : World} {base : Nat} {R : List Rw} (h : InRows w base R) (hk : ∀ r ∈ R, ∀ k, r.val.ownBlock = some k → w'.heap[k]? = w.heap[k]?) : InRows w' base R :=
  ⟨fun r hr => own_blk (h.own r hr) (hk r hr), h.apart⟩
theorem InRows.lt {w : World} {base : Nat} {R : List Rw} (h : InRows w base R) {r : Rw} (hr : r ∈ R) {k : Nat} (hk : r.val.ownBlock = some k) : base ≤ k ∧ k < w.heap.size := (h.own r hr).lt k hk
theorem InRows.below {w w' : World} {base B : Nat} {R : List Rw} (h : InRows w base R) (hb : Below B w w') (hB : w.heap.size ≤ B) : InRows w' base R :=
  h.blk fun r hr k hk => hb.block k (by have := (h.lt hr hk).2; omega)
theorem InRows.base {w : World} {base base' : Nat} {R : List Rw} (h : InRows w base R) (hb : base' ≤ base) : InRows w base' R := ⟨fun r hr => own_base (h.own r hr) hb, h.apart⟩
theorem InRows.grown {w w' : World} {base : Nat} {R : List Rw} {v : Value} (h : InRows w base R) (ha : Away v R) (hg : w.grownBy w' v.ownBlock) : InRows w' base R :=
  h.blk fun r hr k hk => hg.block k (h.lt hr hk).2 (fun e => ha r hr k hk e.symm)
theorem InRows.snoc {w : World} {base : Nat} {R : List Rw} {r : Rw} (h : InRows w base R) (ho : w.ownsRow base 3 1 r.val r.L.length (ints r.L)) (hn : ∀ k, r.val.ownBlock = some k → ∀ s ∈ R, s.val.ownBlock ≠ some k) : InRows w base (R ++ [r]) := by
  refine ⟨fun s hs => ?_, ?_⟩
  · rcases List.mem_append.1 hs with hs | hs
    · exact h.own s hs
    · rw [List.mem_singleton.1 hs]; exact ho
  · rw [List.pairwise_append]
    refine ⟨h.apart, List.pairwise_singleton _ _, fun s hs t ht k hk e => ?_⟩
    rw [List.mem_singleton.1 ht] at e
    exact hn k e s hs hk
theorem Away.snoc {v : Value} {R : List Rw} {r : Rw} (h : Away v R) (hn : ∀ k, r.val.ownBlock = some k → v.ownBlock ≠ some k) : Away v (R ++ [r]) := by
  intro s hs k hk
  rcases List.mem_append.1 hs with hs | hs
  · exact h s hs k hk
  · rw [List.mem_singleton.1 hs] at hk; exact hn k hk
theorem Away.other {v v' : Value} {w : World} {base : Nat} {R : List Rw} (h : Away v R) (hR : InRows w base R) (hv : v'.ownBlock = v.ownBlock ∨ ∃ k, v'.ownBlock = some k ∧ w.heap.size ≤ k) : Away v' R := by
  intro r hr k hk
  rcases hv with e | ⟨k', e, hk'⟩
  · rw [e]; exact h r hr k hk
  · rw [e]; intro e'; cases e'; have := (hR.lt hr hk).2; omega

/-- A slice of rows of the call's own. -/
structure OwnSS (w : World) (base : Nat) (A : Option Addr) (n c : Nat) (R : List Rw) : Prop where
  len : n = R.length
  outer : w.ownsRow base 26 1 (.slice A n c) n (vals R)
  inner : InRows w base R
  away : Away (.slice A n c) R
/-- The blocks of a slice of rows. -/
def Blk (A : Option Addr) (n c : Nat) (R : List Rw) (k : Nat) : Prop := (Value.slice A n c).ownBlock = some k ∨ ∃ r ∈ R, r.val.ownBlock = some k
section
variable {w w' : World} {base : Nat} {A : Option Addr} {n c : Nat} {R : List Rw}
theorem OwnSS.nil (w : World) (base : Nat) : OwnSS w base none 0 0 [] := ⟨rfl, World.ownsRow_nil _ _ _ _, InRows.nil _ _, Away.nil _⟩
theorem OwnSS.lt (h : OwnSS w base A n c R) {k : Nat} (hk : Blk A n c R k) : base ≤ k ∧ k < w.heap.size := by
  rcases hk with hk | ⟨r, hr, hk⟩
  · exact h.outer.lt k hk
  · exact h.inner.lt hr hk
theorem OwnSS.blk (h : OwnSS w base A n c R) (hk : ∀ k, Blk A n c R k → w'.heap[k]? = w.heap[k]?) : OwnSS w' base A n c R :=
  ⟨h.len, own_blk h.outer fun k e => hk k (.inl e), h.inner.blk fun r hr k e => hk k (.inr ⟨r, hr, e⟩), h.away⟩
theorem OwnSS.keep (h : OwnSS w base A n c R) (hb : Below w.heap.size w w') : OwnSS w' base A n c R := h.blk fun k hk => hb.block k (h.lt hk).2
theorem OwnSS.based {base' : Nat} (h : OwnSS w base A n c R) (hb : base' ≤ base) : OwnSS w base' A n c R := ⟨h.len, own_base h.outer hb, h.inner.base hb, h.away⟩
theorem OwnSS.far (h : OwnSS w base A n c R) {row : Option Nat} (hg : w.grownBy w' row) (hne : ∀ k, Blk A n c R k → row ≠ some k) : OwnSS w' base A n c R :=
  h.blk fun k hk => hg.block k (h.lt hk).2 (fun e => hne k hk e.symm)
theorem OwnSS.cap (h : OwnSS w base A n c R) : n ≤ c := own_cap h.outer
theorem OwnSS.rows (h : OwnSS w base A n c R) : RowsAt w w.heap.size A (lists R) := by
  intro i l hl
  simp only [lists, List.getElem?_map, Option.map_eq_some_iff] at hl
  obtain ⟨r, hr, rfl⟩ := hl
  have hi : i < R.length := (List.getElem?_eq_some_iff.1 hr).1
  obtain ⟨g, rfl⟩ := own_form h.outer (by rw [h.len]; omega)
  have ho := h.inner.own r (List.mem_of_getElem? hr)
  refine ⟨g, 0, r.A, r.c, rfl, (own_lt h.outer).2, ?_, own_cap ho, ints_of_own ho⟩
  rw [Nat.zero_add, h.outer.cellAt i (by rw [h.len]; omega)]
  simp [vals, hr, Rw.val]
end

/-- A row more, behind the others. -/
theorem OwnSS.push {w w' : World} {base : Nat} {A : Option Addr} {n c : Nat} {R : List Rw} (h : OwnSS w base A n c R) (r : Rw) (ho : w.ownsRow base 3 1 r.val r.L.length (ints r.L))
    (hn : ∀ k, r.val.ownBlock = some k → ¬ Blk A n c R k) {v' : Value} (hout : w'.ownsRow base 26 1 v' (n + 1) (vals R ++ [r.val])) (hg : w.grownBy w' (Value.slice A n c).ownBlock)
    (hv : v'.ownBlock = (Value.slice A n c).ownBlock ∨ v'.ownBlock = some w.heap.size) : ∃ A' c', v' = .slice A' (n + 1) c' ∧ OwnSS w' base A' (n + 1) c' (R ++ [r]) := by
  obtain ⟨A', c', rfl⟩ := own_val hout
  have ho' : w'.ownsRow base 3 1 r.val r.L.length (ints r.L) := own_blk ho fun k hk => hg.block k (ho.lt k hk).2 (fun e => hn k hk (.inl e.symm))
  have hin := h.inner.grown h.away hg
  refine ⟨A', c', rfl, by simp [h.len], by rw [vals_app]; exact hout, hin.snoc ho' (fun k hk s hs e => hn k hk (.inr ⟨s, hs, e⟩)), ?_⟩
  refine (h.away.other h.inner (v' := .slice A' (n + 1) c') ?_).snoc ?_
  · rcases hv with e | e
    · exact .inl e
    · exact .inr ⟨_, e, Nat.le_refl _⟩
  · intro k hk e
    rcases hv with e' | e'
    · rw [e'] at e; exact hn k hk (.inl e)
    · rw [e'] at e; cases e; exact Nat.lt_irrefl _ (ho.lt _ hk).2

/-- What a marking leaves: blocks that are not marked are as they were. -/
structure Kept (S : Nat → Prop) (w w' : World) : Prop where
  os : w'.os = w.os
  tape : w'.tape = w.tape
  output : w'.output = w.output
  size : w.heap.size ≤ w'.heap.size
  block : ∀ k, k < w.heap.size → ¬ S k → w'.heap[k]? = w.heap[k]?
theorem Kept.refl (S : Nat → Prop) (w : World) : Kept S w w := ⟨rfl, rfl, rfl, Nat.le_refl _, fun _ _ _ => rfl⟩
theorem Kept.step {S : Nat → Prop} {w w' w'' : World} {row : Option Nat} (h : Kept S w w') (hg : w'.grownBy w'' row) (hr : ∀ k, row = some k → S k) : Kept S w w'' :=
  ⟨hg.os.trans h.os, hg.tape.trans h.tape, hg.output.trans h.output, Nat.le_trans h.size hg.size, fun k hk hn => (hg.block k (Nat.lt_of_lt_of_le hk h.size) (fun e => hn (hr k e.symm))).trans (h.block k hk hn)⟩
theorem Kept.below {S : Nat → Prop} {w w' : World} {B : Nat} (h : Kept S w w') (hB : B ≤ w.heap.size) (hS : ∀ k, S k → B ≤ k) : Below B w w' :=
  ⟨h.os, h.tape, h.output, h.size, fun k hk => h.block k (by omega) (fun hs => by have := hS k hs; omega)⟩
theorem OwnSS.kept {w w' : World} {base : Nat} {A : Option Addr} {n c : Nat} {R : List Rw} {S : Nat → Prop} (h : OwnSS w base A n c R) (hK : Kept S w w') (hn : ∀ k, Blk A n c R k → ¬ S k) : OwnSS w' base A n c R :=
  h.blk fun k hk => hK.block k (h.lt hk).2 (hn k hk)
theorem own_kept {w w' : World} {base : Nat} {e : TypeId} {size n : Nat} {v : Value} {xs : List Value} {S : Nat → Prop} (h : w.ownsRow base e size v n xs) (hK : Kept S w w') (hn : ∀ k, v.ownBlock = some k → ¬ S k) : w'.ownsRow base e size v n xs :=
  own_blk h fun k hk => hK.block k (h.lt k hk).2 (hn k hk)

/-- The rows, marked from k on. -/
def Rw.mark (r : Rw) (k : Int) : Rw := ⟨r.A, r.c, upI k r.L.length⟩
theorem Rw.mark_val (r : Rw) (k : Int) : (r.mark k).val = r.val := by simp [Rw.mark, Rw.val, upI_len]
def mkR (k : Int) : List Rw → List Rw
  | [] => []
  | r :: R => r.mark k :: mkR (k + r.L.length) R
theorem mkR_snoc (k : Int) (R : List Rw) (r : Rw) : mkR k (R ++ [r]) = mkR k R ++ [r.mark (k + tot (lists R))] := by
  induction R generalizing k with
  | nil => simp [mkR, tot, lists]
  | cons s R ih =>
    simp only [List.cons_append, mkR, ih, lists, List.map_cons, tot]
    rw [show k + (s.L.length : Int) + (tot (List.map (·.L) R) : Int) = k + ((s.L.length + tot (List.map (·.L) R) : Nat) : Int) by omega]
theorem mkR_len (k : Int) (R : List Rw) : (mkR k R).length = R.length := by
  induction R generalizing k with
  | nil => rfl
  | cons s R ih => simp [mkR, ih]
theorem mkR_vals (k : Int) (R : List Rw) : vals (mkR k R) = vals R := by
  induction R generalizing k with
  | nil => rfl
  | cons s R ih => simp only [vals, mkR, List.map_cons, Rw.mark_val]; exact congrArg _ (ih _)
def mkM (k : Int) : List (List Int) → List (List Int)
  | [] => []
  | l :: M => upI k l.length :: mkM (k + l.length) M
theorem mkM_lists (k : Int) (R : List Rw) : lists (mkR k R) = mkM k (lists R) := by
  induction R generalizing k with
  | nil => rfl
  | cons s R ih => simp only [lists, mkR, mkM, List.map_cons, Rw.mark]; exact congrArg _ (ih _)
theorem mkM_get (k : Int) (M : List (List Int)) (i : Nat) (l : List Int) (h : M[i]? = some l) : (mkM k M)[i]? = some (upI (k + tot (M.take i)) l.length) := by
  induction M generalizing k i with
  | nil => simp at h
  | cons a M ih =>
    cases i with
    | zero => simp at h; subst h; simp [mkM, tot]
    | succ i =>
      have := ih (k + a.length) i (by simpa using h)
      simp only [mkM, List.getElem?_cons_succ, this, List.take_succ_cons, tot]
      rw [show k + (a.length : Int) + (tot (List.take i M) : Int) = k + ((a.length + tot (List.take i M) : Nat) : Int) by omega]

/-- One row of many is marked. -/
theorem OwnSS.marked {w w' : World} {base : Nat} {A : Option Addr} {n c : Nat} {P S : List Rw} {r : Rw} {k0 : Int} (h : OwnSS w base A n c (P ++ r :: S)) (hg : w.grownBy w' r.val.ownBlock)
    (ho : w'.ownsRow base 3 1 r.val r.L.length (ints (upI k0 r.L.length))) : OwnSS w' base A n c (P ++ r.mark k0 :: S) := by
  have hv : vals (P ++ r.mark k0 :: S) = vals (P ++ r :: S) := by simp [vals, Rw.mark_val]
  have hap := h.inner.apart
  have haw := h.away
  refine ⟨by simp [h.len], ?_, ⟨fun s hs => ?_, ?_⟩, ?_⟩
  · rw [hv]
    exact own_blk h.outer fun k hk => hg.block k (h.outer.lt k hk).2 (fun e => haw r (by simp) k e.symm hk)
  · rcases List.mem_append.1 hs with hs' | hs'
    · have hin : s ∈ P ++ r :: S := List.mem_append.2 (.inl hs')
      refine own_blk (h.inner.own s hin) fun k hk => hg.block k (h.inner.lt hin hk).2 (fun e => ?_)
      exact (List.pairwise_append.1 hap).2.2 s hs' r (by simp) k hk e.symm
    · rcases List.mem_cons.1 hs' with rfl | hs''
      · rw [Rw.mark_val, Rw.mark, upI_len]; exact ho
      · have hin : s ∈ P ++ r :: S := List.mem_append.2 (.inr (List.mem_cons.2 (.inr hs'')))
        refine own_blk (h.inner.own s hin) fun k hk => hg.block k (h.inner.lt hin hk).2 (fun e => ?_)
        exact (List.pairwise_cons.1 (List.pairwise_append.1 hap).2.1).1 s hs'' k e.symm hk
  · have h1 : (vals (P ++ r :: S)).Pairwise fun u v => ∀ k, u.ownBlock = some k → v.ownBlock ≠ some k := List.pairwise_map.2 hap
    rw [← hv] at h1
    exact List.pairwise_map.1 h1
  · intro s hs k hk
    have : s.val ∈ vals (P ++ r :: S) := by rw [← hv]; exact List.mem_map.2 ⟨s, hs, rfl⟩
    obtain ⟨s', hs', e⟩ := List.mem_map.1 this
    exact haw s' hs' k (by rw [e]; exact hk)
theorem blk_marks {A : Option Addr} {n c : Nat} {R : List Rw} {k0 : Int} {k : Nat} : Blk A n c (mkR k0 R) k ↔ Blk A n c R k := by
  have h : ∀ Q : List Rw, (∃ r ∈ Q, r.val.ownBlock = some k) ↔ ∃ u ∈ vals Q, u.ownBlock = some k := fun Q => ⟨fun ⟨r, hr, e⟩ => ⟨_, List.mem_map.2 ⟨r, hr, rfl⟩, e⟩, fun ⟨_, hu, e⟩ => by obtain ⟨r, hr, rfl⟩ := List.mem_map.1 hu; exact ⟨r, hr, e⟩⟩
  unfold Blk
  rw [h, h, mkR_vals]

/-- It returns a list of lists of numbers in memory of the call's own, and a bool. -/
def RetSS (w : World) (M : List (List Int)) (ok : Bool) (e : Ending) (w' : World) : Prop :=
  ∃ A c R, e = .returned (.tuple #[.slice A M.length c, .bool ok]) ∧ lists R = M ∧ OwnSS w' w.heap.size A M.length c R ∧ Below w.heap.size w w'
theorem RetSS.none_ {w w' : World} (hb : Below w.heap.size w w') : RetSS w [] false (.returned (.tuple #[.slice none 0 0, .bool false])) w' :=
  ⟨none, 0, [], rfl, rfl, OwnSS.nil _ _, hb⟩
theorem RetSS.mk {w w' : World} {A : Option Addr} {n c : Nat} {R : List Rw} {M : List (List Int)} {ok : Bool} (hM : lists R = M) (ho : OwnSS w' w.heap.size A n c R) (hb : Below w.heap.size w w') : RetSS w M ok (.returned (.tuple #[.slice A n c, .bool ok])) w' := by
  have h := ho.len
  rw [← lists_len, hM] at h
  subst h
  exact ⟨A, c, R, rfl, hM, ho, hb⟩
/-- The same without a bool. -/
def RetSSv (w : World) (M : List (List Int)) (e : Ending) (w' : World) : Prop :=
  ∃ A c R, e = .returned (.slice A M.length c) ∧ lists R = M ∧ OwnSS w' w.heap.size A M.length c R ∧ Below w.heap.size w w'
theorem RetSSv.mk {w w' : World} {A : Option Addr} {n c : Nat} {R : List Rw} {M : List (List Int)} (hM : lists R = M) (ho : OwnSS w' w.heap.size A n c R) (hb : Below w.heap.size w w') : RetSSv w M (.returned (.slice A n c)) w' := by
  have h := ho.len
  rw [← lists_len, hM] at h
  subst h
  exact ⟨A, c, R, rfl, hM, ho, hb⟩
theorem new1 (w : World) (a : Value) (t : TypeId) : ∀ j u, [a][j]? = some u → (w.alloc (.cells #[a] t)).cell? ((⟨w.heap.size, 0, none⟩ : Addr).add j) = some u := by
  intro j u hj
  match j, hj with
  | 0, hj => simp at hj; subst hj; simp [Addr.add]
theorem new1' (w : World) (o : Obj) (a : Value) (t : TypeId) : ∀ j u, [a][j]? = some u → ((w.alloc o).alloc (.cells #[a] t)).cell? ((⟨w.heap.size + 1, 0, none⟩ : Addr).add j) = some u := by
  intro j u hj
  match j, hj with
  | 0, hj => simp at hj; subst hj; simp [Addr.add]
theorem one1 (r : Value) (h : r.oneCell' = true) : ∀ u ∈ [r], u.oneCell' = true := by
  intro u hu; simp at hu; subst hu; exact h
theorem infoSl : (Tryz.prog.info? 26).map (fun i => (i.zero, i.size, i.bytes)) = some (some (.slice none 0 0), 1, 24) := by kernel_rfl
end Go.Proofs.YtchabjmdjpfkfaaGreat
namespace Go.Proofs.YtchabjmdjpfkfaaGreat
open Go.RowKit

/-- What szIntSS returns: -1, or a number of at least 0 and the list is small. -/
def Sized (M : List (List Int)) (w : World) (e : Ending) (w' : World) : Prop := ∃ x : Int, e = .returned (.int .i64 x) ∧ (x = -1 ∨ (0 ≤ x ∧ M.length + tot M ≤ 1048576)) ∧ w = w'
end Go.Proofs.YtchabjmdjpfkfaaGreat
namespace Go.Proofs.YtchabjmdjpfkfaaGreat
open Go.RowKit

/-- A point is a corner of a square. -/
def Cor (x y : Int) (s : Sq) : Bool := (x == s.x || x == s.x + s.d) && (y == s.y || y == s.y + s.d)
theorem eqs (a b c : Int) : ((a == b) = true) ∨ ((a == b) = false ∧ (a == c) = true) ∨ ((a == b) = false ∧ (a == c) = false) := by
  cases (a == b) <;> cases (a == c) <;> simp
def corN (L : List Sq) (x y : Int) (k : Nat) : Nat := ((L.take k).filter (Cor x y)).length
theorem corN_succ (L : List Sq) (x y : Int) (k : Nat) (s : Sq) (h : L[k]? = some s) : corN L x y (k + 1) = corN L x y k + (if Cor x y s then 1 else 0) := by
  unfold corN
  rw [List.take_add_one, h, List.filter_append, List.length_append]
  congr 1
  by_cases hq : Cor x y s <;> simp [hq]
theorem corN_le (L : List Sq) (x y : Int) (k : Nat) : corN L x y k ≤ k := by
  unfold corN
  exact Nat.le_trans (List.length_filter_le _ _) (List.length_take_le _ _)

set_option maxRecDepth 100000 in
set_option maxHeartbeats 4000000 in
theorem cornersOf_any (x y d : Int) (hx : 0 ≤ x) (hx1 : x ≤ 1000000) (hy : 0 ≤ y) (hy1 : y ≤ 1000000) (hd : 0 ≤ d) (hd1 : d ≤ 1000000) (w : World) :
    Calls Tryz.prog 101 #[.agg #[.int .i64 x, .int .i64 y, .int .i64 d]] w fun e w' =>
      e = .returned (.agg #[.int .i64 x, .int .i64 y, .int .i64 (x + d), .int .i64 y, .int .i64 x, .int .i64 (y + d), .int .i64 (x + d), .int .i64 (y + d)]) ∧ Below w.heap.size w w' := by
  go_enter Tryz.func101, Tryz.ntmps101
  go_wp2_with fail
  have hbq : ∀ nq, Below w.heap.size w (((w.alloc (.cells #[.int .i64 x, .int .i64 y, .int .i64 d] 69)).alloc (.cells #[.int .i64 0, .int .i64 0, .int .i64 0, .int .i64 0, .int .i64 0, .int .i64 0, .int .i64 0, .int .i64 0] 133)).drewN nq) := fun nq => below_drewN (((Below.refl _ _).alloc (Nat.le_refl _) _).alloc (by simp) _) nq
  go_quiet (fail)
  obtain ⟨wq, hwq⟩ : ∃ wq, wq = ((w.alloc (.cells #[.int .i64 x, .int .i64 y, .int .i64 d] 69)).alloc (.cells #[.int .i64 0, .int .i64 0, .int .i64 0, .int .i64 0, .int .i64 0, .int .i64 0, .int .i64 0, .int .i64 0] 133)).drewN nq := ⟨_, rfl⟩
  have hB := hbq nq
  rw [← hwq] at hB ⊢
  have s0 : wq.cell? ⟨w.heap.size, 0, none⟩ = some (.int .i64 x) := by rw [hwq]; simp [go_sem]
  have s1 : wq.cell? ⟨w.heap.size, 1, none⟩ = some (.int .i64 y) := by rw [hwq]; simp [go_sem]
  have q0 : wq.cell? ⟨w.heap.size + 1, 0, none⟩ = some (.int .i64 0) := by rw [hwq]; simp [go_sem]
  have f0 : wq.frozen? ⟨w.heap.size + 1, 0, none⟩ = false := by rw [hwq]; simp [go_sem]
  have q1 : wq.cell? ⟨w.heap.size + 1, 1, none⟩ = some (.int .i64 0) := by rw [hwq]; simp [go_sem]
  have f1 : wq.frozen? ⟨w.heap.size + 1, 1, none⟩ = false := by rw [hwq]; simp [go_sem]
  have q2 : wq.cell? ⟨w.heap.size + 1, 2, none⟩ = some (.int .i64 0) := by rw [hwq]; simp [go_sem]
  have f2 : wq.frozen? ⟨w.heap.size + 1, 2, none⟩ = false := by rw [hwq]; simp [go_sem]
  have q3 : wq.cell? ⟨w.heap.size + 1, 3, none⟩ = some (.int .i64 0) := by rw [hwq]; simp [go_sem]
  have f3 : wq.frozen? ⟨w.heap.size + 1, 3, none⟩ = false := by rw [hwq]; simp [go_sem]
  have q4 : wq.cell? ⟨w.heap.size + 1, 4, none⟩ = some (.int .i64 0) := by rw [hwq]; simp [go_sem]
  have f4 : wq.frozen? ⟨w.heap.size + 1, 4, none⟩ = false := by rw [hwq]; simp [go_sem]
  have q5 : wq.cell? ⟨w.heap.size + 1, 5, none⟩ = some (.int .i64 0) := by rw [hwq]; simp [go_sem]
  have f5 : wq.frozen? ⟨w.heap.size + 1, 5, none⟩ = false := by rw [hwq]; simp [go_sem]
  have q6 : wq.cell? ⟨w.heap.size + 1, 6, none⟩ = some (.int .i64 0) := by rw [hwq]; simp [go_sem]
  have f6 : wq.frozen? ⟨w.heap.size + 1, 6, none⟩ = false := by rw [hwq]; simp [go_sem]
  have q7 : wq.cell? ⟨w.heap.size + 1, 7, none⟩ = some (.int .i64 0) := by rw [hwq]; simp [go_sem]
  have f7 : wq.frozen? ⟨w.heap.size + 1, 7, none⟩ = false := by rw [hwq]; simp [go_sem]
  clear hbq hwq
  go_wp2_with fail
  clear s0 s1
  obtain ⟨wf, hwf⟩ : ∃ wf, wf = ((((((((wq.setCell ⟨w.heap.size + 1, 0, none⟩ (.int .i64 x)).setCell ⟨w.heap.size + 1, 1, none⟩ (.int .i64 y)).setCell ⟨w.heap.size + 1, 2, none⟩ (.int .i64 (x + d))).setCell ⟨w.heap.size + 1, 3, none⟩ (.int .i64 y)).setCell ⟨w.heap.size + 1, 4, none⟩ (.int .i64 x)).setCell ⟨w.heap.size + 1, 5, none⟩ (.int .i64 (y + d))).setCell ⟨w.heap.size + 1, 6, none⟩ (.int .i64 (x + d))).setCell ⟨w.heap.size + 1, 7, none⟩ (.int .i64 (y + d))) := ⟨_, rfl⟩
  have hBf : Below w.heap.size w wf := by rw [hwf]; exact ((((((((hB.setCell (Nat.le_succ _) _).setCell (Nat.le_succ _) _).setCell (Nat.le_succ _) _).setCell (Nat.le_succ _) _).setCell (Nat.le_succ _) _).setCell (Nat.le_succ _) _).setCell (Nat.le_succ _) _).setCell (Nat.le_succ _) _)
  have r0 : wf.cell? ⟨w.heap.size + 1, 0, none⟩ = some (.int .i64 x) := by rw [hwf]; simp [go_sem, q0]
  have r1 : wf.cell? ⟨w.heap.size + 1, 1, none⟩ = some (.int .i64 y) := by rw [hwf]; simp [go_sem, q1]
  have r2 : wf.cell? ⟨w.heap.size + 1, 2, none⟩ = some (.int .i64 (x + d)) := by rw [hwf]; simp [go_sem, q2]
  have r3 : wf.cell? ⟨w.heap.size + 1, 3, none⟩ = some (.int .i64 y) := by rw [hwf]; simp [go_sem, q3]
  have r4 : wf.cell? ⟨w.heap.size + 1, 4, none⟩ = some (.int .i64 x) := by rw [hwf]; simp [go_sem, q4]
  have r5 : wf.cell? ⟨w.heap.size + 1, 5, none⟩ = some (.int .i64 (y + d)) := by rw [hwf]; simp [go_sem, q5]
  have r6 : wf.cell? ⟨w.heap.size + 1, 6, none⟩ = some (.int .i64 (x + d)) := by rw [hwf]; simp [go_sem, q6]
  have r7 : wf.cell? ⟨w.heap.size + 1, 7, none⟩ = some (.int .i64 (y + d)) := by rw [hwf]; simp [go_sem, q7]
  rw [← hwf]
  clear hwf q0 f0 q1 f1 q2 f2 q3 f3 q4 f4 q5 f5 q6 f6 q7 f7
  refine bodyPost_ret (v := .agg #[.int .i64 x, .int .i64 y, .int .i64 (x + d), .int .i64 y, .int .i64 x, .int .i64 (y + d), .int .i64 (x + d), .int .i64 (y + d)]) (by simp [results, Tryz.results101, go_sem, r0, r1, r2, r3, r4, r5, r6, r7]) rfl ⟨rfl, hBf⟩

set_option maxRecDepth 100000 in
set_option maxHeartbeats 1000000 in
theorem cuCorners_any (W H : Int) (A : Option Addr) (n c : Nat) (L : List Sq) (x y : Int) (w : World) (hl : L.length = n) (hn : n ≤ 30) (hL : SqsAt w w.heap.size A L) (hf : ∀ s ∈ L, Fine s) :
    Calls Tryz.prog 42 #[.agg #[.int .i64 W, .int .i64 H, .slice A n c], .int .i64 x, .int .i64 y] w fun e w' => e = .returned (.int .i64 (corN L x y L.length : Nat)) ∧ Below w.heap.size w w' := by
  subst hl
  have Z0 : Box w.heap.size w (w.alloc (.cells #[.int .i64 W, .int .i64 H, .slice A L.length c] 48)) W H A c L := Box.start hL
  obtain ⟨W1, hW1⟩ : ∃ W1, W1 = w.alloc (.cells #[.int .i64 W, .int .i64 H, .slice A L.length c] 48) := ⟨_, rfl⟩
  rw [← hW1] at Z0
  obtain ⟨hB1, hs1, b0, b1, b2, hL1⟩ := id Z0
  go_enter Tryz.func42, Tryz.ntmps42
  go_wp2_with fail
  rw [← hW1]
  clear hW1
  go_wp2_with fail
  go_loopw [7, 13] (fun v i wr => ∃ k : Nat, k ≤ L.length ∧ i = .int .i64 k ∧ v = .int .i64 (corN L x y k : Nat) ∧ Below w.heap.size w wr) (fun _ i _ => L.length - (intOf i).toNat)
  case atStart => exact ⟨0, Nat.zero_le _, rfl, by simp [corN], hB1⟩
  case round =>
    obtain ⟨k, hk, rfl, rfl, hbr⟩ := hrel
    have hzr := hbr.size
    by_cases hlt : k < L.length
    · obtain ⟨s, hs⟩ : ∃ s, L[k]? = some s := ⟨_, List.getElem?_eq_getElem hlt⟩
      obtain ⟨b, off, rfl, hb, c0, c1, c2⟩ := (hL.below hbr) k s hs
      obtain ⟨f0, f1, f2, f3, f4, f5⟩ := hf s (List.mem_of_getElem? hs)
      have hsuc := corN_succ L x y k s hs
      have hle := corN_le L x y k
      obtain ⟨N0, hN0⟩ : ∃ z, corN L x y k = z := ⟨_, rfl⟩
      rw [hN0] at hsuc hle ⊢
      have hfin : ∀ o : Obj, Below w.heap.size w (wr.alloc o) := fun o => hbr.alloc hzr o
      clear hs hL hL1 Z0 b0 b1 b2 hN0 hf
      have HS := Lib.hid hsuc
      clear hsuc
      rcases eqs x s.x (s.x + s.d) with p1 | ⟨p1, p2⟩ | ⟨p1, p2⟩
      · rcases eqs y s.y (s.y + s.d) with q1 | ⟨q1, q2⟩ | ⟨q1, q2⟩
        · go_wp2_with fail
          go_roundw
          case rel => exact ⟨k + 1, by omega, by go_num, by rw [HS.out]; simp [Cor, p1, q1], hfin _⟩
          case measure => simp [intOf]; omega
        · go_wp2_with fail
          go_roundw
          case rel => exact ⟨k + 1, by omega, by go_num, by rw [HS.out]; simp [Cor, p1, q1, q2], hfin _⟩
          case measure => simp [intOf]; omega
        · go_wp2_with fail
          go_roundw
          case rel => exact ⟨k + 1, by omega, by go_num, by rw [HS.out]; simp [Cor, p1, q1, q2], hfin _⟩
          case measure => simp [intOf]; omega
      · rcases eqs y s.y (s.y + s.d) with q1 | ⟨q1, q2⟩ | ⟨q1, q2⟩
        · go_wp2_with fail
          go_roundw
          case rel => exact ⟨k + 1, by omega, by go_num, by rw [HS.out]; simp [Cor, p1, p2, q1], hfin _⟩
          case measure => simp [intOf]; omega
        · go_wp2_with fail
          go_roundw
          case rel => exact ⟨k + 1, by omega, by go_num, by rw [HS.out]; simp [Cor, p1, p2, q1, q2], hfin _⟩
          case measure => simp [intOf]; omega
        · go_wp2_with fail
          go_roundw
          case rel => exact ⟨k + 1, by omega, by go_num, by rw [HS.out]; simp [Cor, p1, p2, q1, q2], hfin _⟩
          case measure => simp [intOf]; omega
      · go_wp2_with fail
        go_roundw
        case rel => exact ⟨k + 1, by omega, by go_num, by rw [HS.out]; simp [Cor, p1, p2], hfin _⟩
        case measure => simp [intOf]; omega
    · obtain rfl : k = L.length := by omega
      go_wp2_with fail
      go_ret
      exact ⟨rfl, hbr⟩
end Go.Proofs.YtchabjmdjpfkfaaGreat
namespace Go.Proofs.YtchabjmdjpfkfaaGreat
open Go.RowKit

/-- How many of the first corners of a square are the point. -/
def corK (x y : Int) (s : Sq) : Nat → Nat
  | 0 => 0
  | 1 => if s.x == x && s.y == y then 1 else 0
  | 2 => (if s.x == x && s.y == y then 1 else 0) + (if s.x + s.d == x && s.y == y then 1 else 0)
  | 3 => (if s.x == x && s.y == y then 1 else 0) + (if s.x + s.d == x && s.y == y then 1 else 0) + (if s.x == x && s.y + s.d == y then 1 else 0)
  | _ => (if s.x == x && s.y == y then 1 else 0) + (if s.x + s.d == x && s.y == y then 1 else 0) + (if s.x == x && s.y + s.d == y then 1 else 0) + (if s.x + s.d == x && s.y + s.d == y then 1 else 0)
theorem corK_four {x y : Int} {s : Sq} (h : 1 ≤ s.d) : corK x y s 4 = if Cor x y s then 1 else 0 := by
  unfold corK Cor
  by_cases a : x = s.x <;> by_cases b : x = s.x + s.d <;> by_cases c : y = s.y <;> by_cases d : y = s.y + s.d <;> (simp only [Bool.and_eq_true, Bool.or_eq_true, beq_iff_eq]) <;> (repeat' split) <;> omega
theorem corK_le {x y : Int} {s : Sq} (j : Nat) : corK x y s j ≤ 4 := by
  unfold corK
  (repeat' split) <;> omega
theorem corner_step {x y : Int} {s : Sq} (j : Nat) (h : j < 4) : corK x y s (j + 1) = corK x y s j + (match j with
  | 0 => if s.x == x && s.y == y then 1 else 0
  | 1 => if s.x + s.d == x && s.y == y then 1 else 0
  | 2 => if s.x == x && s.y + s.d == y then 1 else 0
  | _ => if s.x + s.d == x && s.y + s.d == y then 1 else 0) := by
  match j, h with
  | 0, _ => simp [corK]
  | 1, _ => rfl
  | 2, _ => rfl
  | 3, _ => rfl

theorem eqCell (a b c d : Int) (w : World) : (Op.equalIn 10000 129 (.agg #[.int .i64 a, .int .i64 b]) (.agg #[.int .i64 c, .int .i64 d])).run Tryz.prog w = .ok (a == c && b == d) w := by
  have u3 := Tryz.underlying3
  have a3 : ∀ w, (isAgg 3).run Tryz.prog w = .ok false w := fun _ => by kernel_rfl
  have z3 : ∀ w, (Go.sizeOf 3).run Tryz.prog w = .ok 1 w := fun _ => by kernel_rfl
  rw [show (10000 : Nat) = 9999 + 1 from rfl, Op.equalIn]
  simp only [Sem.run_bind, run_underlying Tryz.underlying129, Result.andThen_ok]
  simp only [Std.Legacy.Range.forIn_eq_forIn_range', Std.Legacy.Range.size, Nat.sub_zero, Nat.add_sub_cancel, Nat.div_one, List.range'_succ, List.range'_zero, List.forIn_cons, List.forIn_nil]
  go_simp
  by_cases h1 : a = c <;> by_cases h2 : b = d <;> simp [h1, h2]

set_option maxRecDepth 100000 in
set_option maxHeartbeats 8000000 in
theorem isCross_any (W H : Int) (A : Option Addr) (n c : Nat) (L : List Sq) (x y : Int) (w : World) (hl : L.length = n) (hn : n ≤ 30) (hL : SqsAt w w.heap.size A L) (hf : ∀ s ∈ L, Fine s) :
    Calls Tryz.prog 95 #[.agg #[.int .i64 W, .int .i64 H, .slice A n c], .agg #[.int .i64 x, .int .i64 y]] w (RetB w (corN L x y L.length = 4)) := by
  subst hl
  obtain ⟨W1, hW1⟩ : ∃ W1, W1 = (w.alloc (.cells #[.int .i64 W, .int .i64 H, .slice A L.length c] 48)).alloc (.cells #[.int .i64 x, .int .i64 y] 129) := ⟨_, rfl⟩
  have hB1 : Below w.heap.size w W1 := by rw [hW1]; exact ((Below.refl _ _).alloc (Nat.le_refl _) _).alloc (by simp) _
  have hz1 : W1.heap.size = w.heap.size + 2 := by rw [hW1]; simp
  have b2 : W1.cell? ⟨w.heap.size, 2, none⟩ = some (.slice A L.length c) := by rw [hW1]; simp [go_sem]
  have p0 : W1.cell? ⟨w.heap.size + 1, 0, none⟩ = some (.int .i64 x) := by rw [hW1]; simp [go_sem]
  have p1 : W1.cell? ⟨w.heap.size + 1, 1, none⟩ = some (.int .i64 y) := by rw [hW1]; simp [go_sem]
  go_enter Tryz.func95, Tryz.ntmps95
  go_wp2_with fail
  rw [← hW1]
  clear hW1
  go_wp2_with fail
  go_loopw [5, 13] (fun v i wr => ∃ k : Nat, k ≤ L.length ∧ i = .int .i64 k ∧ v = .int .i64 (corN L x y k : Nat) ∧ Below (w.heap.size + 2) W1 wr ∧ w.heap.size + 2 ≤ wr.heap.size) (fun _ i _ => L.length - (intOf i).toNat)
  case atStart => exact ⟨0, Nat.zero_le _, rfl, by simp [corN], Below.refl _ _, Nat.le_of_eq hz1.symm⟩
  case round =>
    obtain ⟨k, hk, rfl, rfl, hbr, hzr⟩ := hrel
    by_cases hlt : k < L.length
    · obtain ⟨s, hs⟩ : ∃ s, L[k]? = some s := ⟨_, List.getElem?_eq_getElem hlt⟩
      obtain ⟨b, off, rfl, hb, c0, c1, c2⟩ := (hL.below (hB1.trans (hbr.mono (by omega)))) k s hs
      obtain ⟨f0, f1, f2, f3, f4, f5⟩ := hf s (List.mem_of_getElem? hs)
      have hsuc := corN_succ L x y k s hs
      have hle := corN_le L x y k
      obtain ⟨N0, hN0⟩ : ∃ z, corN L x y k = z := ⟨_, rfl⟩
      rw [hN0] at hsuc hle ⊢
      rw [← corK_four f4] at hsuc
      have HS := Lib.hid hsuc
      have k0 : (0 : Int) ≤ (k : Int) := by omega
      have k1 : (k : Int) < (L.length : Int) := by omega
      have hzr' : w.heap.size + 1 < wr.heap.size := by omega
      clear hs hL hN0 hf hsuc b2
      go_wp2_with fail
      refine (cornersOf_any s.x s.y s.d (by omega) (by omega) (by omega) (by omega) (by omega) (by omega) _).mono ?_
      rintro e w2 ⟨rfl, hb2⟩
      have hB2 : Below (w.heap.size + 2) W1 w2 := (hbr.alloc hzr _).trans (hb2.mono (by simp; omega))
      have hz2 := hb2.size
      simp only [World.size_alloc] at hz2
      clear hb2 c0 c1 c2
      go_wp2_with fail
      go_loopw [5, 19] (fun v i wr => ∃ j : Nat, j ≤ 4 ∧ i = .int .i64 j ∧ v = .int .i64 (N0 + corK x y s j : Nat) ∧ Below (w.heap.size + 2) W1 wr ∧ w.heap.size + 2 ≤ wr.heap.size) (fun _ i _ => 4 - (intOf i).toNat)
      case atStart => exact ⟨0, by omega, rfl, by simp [corK], hB2, by omega⟩
      case round =>
        obtain ⟨j, hj, rfl, rfl, hb3, hz3⟩ := hrel
        have q0 := (hb3.cell (p := ⟨w.heap.size + 1, 0, none⟩) (by simp)).trans p0
        have q1 := (hb3.cell (p := ⟨w.heap.size + 1, 1, none⟩) (by simp)).trans p1
        have hz3' : w.heap.size + 1 < wr.heap.size := by omega
        have hfin := fun o : Obj => hb3.alloc hz3 o
        have heq := eqCell
        have i0 : ∀ (a0 a1 a2 a3 a4 a5 a6 a7 : Int) (w : World), (Instr.index 133 (.agg #[.int .i64 a0, .int .i64 a1, .int .i64 a2, .int .i64 a3, .int .i64 a4, .int .i64 a5, .int .i64 a6, .int .i64 a7]) (.int .i64 0)).run Tryz.prog w = .ok (.agg #[.int .i64 a0, .int .i64 a1]) w := fun _ _ _ _ _ _ _ _ _ => by kernel_rfl
        have i1 : ∀ (a0 a1 a2 a3 a4 a5 a6 a7 : Int) (w : World), (Instr.index 133 (.agg #[.int .i64 a0, .int .i64 a1, .int .i64 a2, .int .i64 a3, .int .i64 a4, .int .i64 a5, .int .i64 a6, .int .i64 a7]) (.int .i64 1)).run Tryz.prog w = .ok (.agg #[.int .i64 a2, .int .i64 a3]) w := fun _ _ _ _ _ _ _ _ _ => by kernel_rfl
        have i2 : ∀ (a0 a1 a2 a3 a4 a5 a6 a7 : Int) (w : World), (Instr.index 133 (.agg #[.int .i64 a0, .int .i64 a1, .int .i64 a2, .int .i64 a3, .int .i64 a4, .int .i64 a5, .int .i64 a6, .int .i64 a7]) (.int .i64 2)).run Tryz.prog w = .ok (.agg #[.int .i64 a4, .int .i64 a5]) w := fun _ _ _ _ _ _ _ _ _ => by kernel_rfl
        have i3 : ∀ (a0 a1 a2 a3 a4 a5 a6 a7 : Int) (w : World), (Instr.index 133 (.agg #[.int .i64 a0, .int .i64 a1, .int .i64 a2, .int .i64 a3, .int .i64 a4, .int .i64 a5, .int .i64 a6, .int .i64 a7]) (.int .i64 3)).run Tryz.prog w = .ok (.agg #[.int .i64 a6, .int .i64 a7]) w := fun _ _ _ _ _ _ _ _ _ => by kernel_rfl
        have hle2 := corK_le (x := x) (y := y) (s := s) j
        by_cases hlt2 : j < 4
        · have hst := corner_step (x := x) (y := y) (s := s) j hlt2
          obtain ⟨K0, hK0⟩ : ∃ z, corK x y s j = z := ⟨_, rfl⟩
          rw [hK0] at hst hle2 ⊢
          have HST := Lib.hid hst
          clear hst hK0
          rcases (by omega : j = 0 ∨ j = 1 ∨ j = 2 ∨ j = 3) with rfl | rfl | rfl | rfl
          · rcases Bool.eq_false_or_eq_true (s.x == x) with a1 | a1 <;> rcases Bool.eq_false_or_eq_true (s.y == y) with a2 | a2
            all_goals
              go_wp2_with fail
              go_roundw
              case rel => exact ⟨0 + 1, by omega, rfl, by rw [HST.out]; simp [a1, a2] <;> omega, hfin _, by simp; omega⟩
              case measure => simp [intOf]
          · rcases Bool.eq_false_or_eq_true (s.x + s.d == x) with a1 | a1 <;> rcases Bool.eq_false_or_eq_true (s.y == y) with a2 | a2
            all_goals
              go_wp2_with fail
              go_roundw
              case rel => exact ⟨1 + 1, by omega, rfl, by rw [HST.out]; simp [a1, a2] <;> omega, hfin _, by simp; omega⟩
              case measure => simp [intOf]
          · rcases Bool.eq_false_or_eq_true (s.x == x) with a1 | a1 <;> rcases Bool.eq_false_or_eq_true (s.y + s.d == y) with a2 | a2
            all_goals
              go_wp2_with fail
              go_roundw
              case rel => exact ⟨2 + 1, by omega, rfl, by rw [HST.out]; simp [a1, a2] <;> omega, hfin _, by simp; omega⟩
              case measure => simp [intOf]
          · rcases Bool.eq_false_or_eq_true (s.x + s.d == x) with a1 | a1 <;> rcases Bool.eq_false_or_eq_true (s.y + s.d == y) with a2 | a2
            all_goals
              go_wp2_with fail
              go_roundw
              case rel => exact ⟨3 + 1, by omega, rfl, by rw [HST.out]; simp [a1, a2] <;> omega, hfin _, by simp; omega⟩
              case measure => simp [intOf]
        · obtain rfl : j = 4 := by omega
          go_wp2_with fail
          go_roundw
          case rel => exact ⟨k + 1, by omega, by go_num, by rw [HS.out], hb3, hz3⟩
          case measure => simp [intOf]; omega
    · obtain rfl : k = L.length := by omega
      have hBF := hB1.trans (hbr.mono (by omega))
      obtain ⟨N0, hN0⟩ : ∃ z, corN L x y L.length = z := ⟨_, rfl⟩
      rw [hN0]
      by_cases h4 : N0 = 4
      · have e1 : ((N0 : Int) == 4) = true := by simp; omega
        have HN := Lib.hid hN0
        clear hN0
        go_wp2_with fail
        go_ret
        exact ⟨ret_dc (by rw [HN.out]; simpa using h4), hBF⟩
      · have e1 : ((N0 : Int) == 4) = false := by simp; omega
        have HN := Lib.hid hN0
        clear hN0
        go_wp2_with fail
        go_ret
        exact ⟨ret_dc (by rw [HN.out]; simpa using h4), hBF⟩

/-- The crosses at which the first squares begin. -/
def crossL (L : List Sq) (k : Nat) : List (List Int) := ((L.take k).filter fun s => corN L s.x s.y L.length == 4).map fun s => [s.x, s.y]
theorem crossL_succ (L : List Sq) (k : Nat) (s : Sq) (h : L[k]? = some s) : crossL L (k + 1) = crossL L k ++ (if corN L s.x s.y L.length == 4 then [[s.x, s.y]] else []) := by
  unfold crossL
  rw [List.take_add_one, h, List.filter_append, List.map_append]
  congr 1
  by_cases hq : (corN L s.x s.y L.length == 4) = true <;> simp [hq]
theorem crossL_len (L : List Sq) (k : Nat) : (crossL L k).length ≤ k := by
  unfold crossL
  rw [List.length_map]
  exact Nat.le_trans (List.length_filter_le _ _) (List.length_take_le _ _)
theorem crossL_tot (L : List Sq) (k : Nat) : tot (crossL L k) ≤ 2 * k := by
  have h : ∀ M : List Sq, tot (M.map fun s => [s.x, s.y]) = 2 * M.length := fun M => by
    induction M with
    | nil => rfl
    | cons s M ih => simp only [List.map_cons, tot, ih, List.length_cons, List.length_nil]; omega
  unfold crossL
  rw [h]
  have := List.length_filter_le (fun s => corN L s.x s.y L.length == 4) (L.take k)
  have := List.length_take_le k L
  omega

set_option maxRecDepth 100000 in
set_option maxHeartbeats 8000000 in
theorem implCross_any (W H : Int) (A : Option Addr) (n c : Nat) (L : List Sq) (w : World) (hl : L.length = n) (hc : n ≤ c) (hL : SqsAt w w.heap.size A L) (hwf : ∀ s ∈ L, wfS s) :
    Calls Tryz.prog 81 #[.agg #[.int .i64 W, .int .i64 H, .slice A n c]] w (RetSS w (ifGood W H L (crossL L L.length)) (dc (Good W H L))) := by
  subst hl
  obtain ⟨j0, hj, hy0, hy1, hy2⟩ := info_parts infoSl
  have hb0 : ∀ o : Obj, Below w.heap.size w (w.alloc o) := fun o => (Below.refl _ _).alloc (Nat.le_refl _) o
  have Z0 : Box w.heap.size w (w.alloc (.cells #[.int .i64 W, .int .i64 H, .slice A L.length c] 48)) W H A c L := Box.start hL
  by_cases hG : Good W H L
  · rw [ifGood_yes hG, dc_true hG]
    have hg30 := hG.2.2.1.2
    have hfine : ∀ s ∈ L, Fine s := fun s hs => by
      obtain ⟨j, hj⟩ := List.mem_iff_getElem?.1 hs
      exact (hG.2.2.2.1 j s hj).1.fine hG.1.2 hG.2.1.2
    go_enter Tryz.func81, Tryz.ntmps81
    go_wp2_with fail
    refine (callB_yes (isCut_good W H A _ c L _ rfl hc ((hL.below (hb0 _)).mono (hb0 _).size) hwf) hG).mono ?_
    rintro e w1 ⟨rfl, hb1⟩
    have Z1 := Z0.next hb1
    obtain ⟨hB1, hz1, b0, b1, b2, hL1⟩ := id Z1
    clear Z0 hb1 hb0 hG
    go_wp2_with fail
    go_loopw [4, 13] (fun v i wr => ∃ (k : Nat) (A' : Option Addr) (n' c' : Nat) (R : List Rw), k ≤ L.length ∧ i = .int .i64 k ∧ v = .slice A' n' c' ∧ lists R = crossL L k ∧ OwnSS wr w1.heap.size A' n' c' R ∧ Below w1.heap.size w1 wr) (fun _ i _ => L.length - (intOf i).toNat)
    case atStart => exact ⟨0, none, 0, 0, [], Nat.zero_le _, rfl, rfl, by simp [lists, crossL], OwnSS.nil _ _, Below.refl _ _⟩
    case round =>
      obtain ⟨k, A1, n1, c1, R1, hk, rfl, rfl, hM, hS, hbr⟩ := hrel
      have hs1 := hbr.size
      have Zr := Z1.next hbr
      obtain ⟨hBr, hzr, d0, d1, d2, hLr⟩ := id Zr
      by_cases hlt : k < L.length
      · obtain ⟨s, hs⟩ : ∃ s, L[k]? = some s := ⟨_, List.getElem?_eq_getElem hlt⟩
        obtain ⟨b, off, rfl, hb, c0, c1', c2⟩ := hLr k s hs
        have hsuc := crossL_succ L k s hs
        have hn1 : n1 ≤ 30 := by
          have e := hS.len
          rw [← lists_len, hM] at e
          have := crossL_len L k
          omega
        have HM := Lib.hid hM
        have k0 : (0 : Int) ≤ (k : Int) := by omega
        have k1 : (k : Int) < (L.length : Int) := by omega
        clear hM hs b0 b1 b2 hL1
        go_wp2_with fail
        obtain ⟨W2, hW2⟩ : ∃ W2, W2 = wr.alloc (.cells #[.int .i64 s.x, .int .i64 s.y, .int .i64 s.d] 69) := ⟨_, rfl⟩
        have hb2 : Below wr.heap.size wr W2 := by rw [hW2]; exact (Below.refl _ _).alloc (Nat.le_refl _) _
        have f0 : W2.cell? ⟨wr.heap.size, 0, none⟩ = some (.int .i64 s.x) := by rw [hW2]; simp
        have f1 : W2.cell? ⟨wr.heap.size, 1, none⟩ = some (.int .i64 s.y) := by rw [hW2]; simp
        have hz2 : wr.heap.size < W2.heap.size := by rw [hW2]; simp
        have Z2 := Zr.next hb2
        obtain ⟨hB2, hzz, e0, e1, e2, hL2⟩ := id Z2
        have hS2 := hS.keep hb2
        have hB12 := hbr.trans (hb2.mono hs1)
        obtain ⟨g, hg⟩ : ∃ g, g = wr.heap.size := ⟨_, rfl⟩
        rw [← hW2]
        rw [← hg] at f0 f1 hz2 ⊢
        clear hW2 c0 c1' c2 d0 d1 d2 hLr hb2 hg hS Zr
        have HSU := Lib.hid hsuc
        have HL2 := Lib.hid (hL2.mono hB2.size)
        clear hsuc hL2
        by_cases h4 : corN L s.x s.y L.length = 4
        · go_wp2_with fail
          refine (callB_yes (isCross_any W H _ L.length c L s.x s.y _ rfl hg30 HL2.out hfine) h4).mono ?_
          rintro e w3 ⟨rfl, hb3⟩
          have f0' := (hb3.cell (p := ⟨g, 0, none⟩) hz2).trans f0
          have f1' := (hb3.cell (p := ⟨g, 1, none⟩) hz2).trans f1
          have hS3 := hS2.keep hb3
          have hB3 := hB12.trans (hb3.mono hB12.size)
          have hz3 := hb3.size
          have hz3' : g < w3.heap.size := by omega
          have hw1 := hB3.size
          have hcr := HSU.out
          rw [if_pos (by simpa using h4)] at hcr
          have HC := Lib.hid hcr
          clear hcr h4 hb3 f0 f1 hS2 hB12 HL2 HSU e0 e1 e2
          have hbl : n1 + 1 ≤ maxLen := by unfold maxLen; omega
          have hby : (n1 + 1) * 24 ≤ 140737488355328 := by omega
          go_wp2_with (at_builtin; refine app_list rfl _ _ _ rfl w1.heap.size 26 j0 (.slice none 0 0) 1 24 Tryz.underlying111 hj hy0 hy1 hy2 rfl (by decide) (.slice A1 n1 c1) n1 _ rfl ((hS3.outer.alloc _).alloc _) (some ⟨w3.heap.size + 1, 0, none⟩) 1 1 [.slice (some ⟨w3.heap.size, 0, none⟩) 2 2] rfl rfl (.inr ⟨_, rfl, new1' _ _ _ _⟩) (one1 _ rfl) hbl hby (by simp; omega) ?_; intro v' w6 hown6 hgrow hv6)
          have hB7 : Below w1.heap.size w1 w6 := ((hB3.alloc hw1 _).alloc (by simp; omega) _).grown hgrow (by simp; omega) (fun k hk => (hS3.lt (.inl hk)).1)
          obtain ⟨A7, c7, rfl, hS7⟩ := (hS3.keep (((Below.refl _ _).alloc (Nat.le_refl _) _).alloc (by simp) _)).push ⟨some ⟨w3.heap.size, 0, none⟩, 2, [s.x, s.y]⟩ ((World.ownsRow_lit w3 #[.int .i64 s.x, .int .i64 s.y] 2 hw1 (by unfold maxLen; omega) rfl).alloc _) (fun kk hkk hkb => by have := (hS3.lt hkb).2; simp [Rw.val, Value.ownBlock] at hkk; omega) hown6 hgrow hv6
          clear hgrow hown6 hv6 hS3
          go_wp2_with fail
          go_roundw
          case rel => exact ⟨k + 1, A7, n1 + 1, c7, _, by omega, by go_num, rfl, by rw [HC.out, lists_app, HM.out]; rfl, hS7, hB7⟩
          case measure => simp [intOf]; omega
        · go_wp2_with fail
          refine (callB_no (isCross_any W H _ L.length c L s.x s.y _ rfl hg30 HL2.out hfine) h4).mono ?_
          rintro e w3 ⟨rfl, hb3⟩
          have hS3 := hS2.keep hb3
          have hB3 := hB12.trans (hb3.mono hB12.size)
          have hcr := HSU.out
          rw [if_neg (by simpa using h4)] at hcr
          have HC := Lib.hid hcr
          clear hcr h4 hb3 f0 f1 hS2 hB12 HL2 HSU e0 e1 e2
          go_wp2_with fail
          go_roundw
          case rel => exact ⟨k + 1, A1, n1, c1, R1, by omega, by go_num, rfl, by rw [HC.out, List.append_nil]; exact HM.out, hS3, hB3⟩
          case measure => simp [intOf]; omega
      · obtain rfl : k = L.length := by omega
        go_wp2_with fail
        go_ret2
        exact RetSS.mk hM (hS.based hB1.size) (hB1.trans (hbr.mono hB1.size))
  · rw [ifGood_no hG, dc_false hG]
    go_enter Tryz.func81, Tryz.ntmps81
    go_wp2_with fail
    refine (callB_no (isCut_good W H A _ c L _ rfl hc ((hL.below (hb0 _)).mono (hb0 _).size) hwf) hG).mono ?_
    rintro e w1 ⟨rfl, hb1⟩
    go_wp2_with fail
    go_ret2
    exact RetSS.none_ ((hb0 _).trans (hb1.mono (hb0 _).size))
end Go.Proofs.YtchabjmdjpfkfaaGreat
