/- countsFrom of the program: memory. -/
import Derived.Test.YtebnekicbcdnaaaSk
import Derived.Test.YtebnekicbcdnaaaLast
import Derived.BigQuiet
set_option linter.all false
namespace Go.Proofs.Ytebnekicbcdnaaa
open Go.RowKit

/-- Rows of different types lie in different blocks. -/
theorem rowsT_ne {w : World} {base base' size size' n n' : Nat} {e e' : TypeId} {v v' : Value} {xs xs' : List Value} (h : w.ownsRow base e size v n xs) (h' : w.ownsRow base' e' size' v' n' xs') (hne : e ≠ e') : ∀ b, v.ownBlock = some b → v'.ownBlock ≠ some b := by
  intro b hb hb'
  rcases h.2 with ⟨rfl, _⟩ | ⟨g, cap, cur, rfl, _, hg, _⟩
  · cases hb
  · rcases h'.2 with ⟨rfl, _⟩ | ⟨g', cap', cur', rfl, _, hg', _⟩
    · cases hb'
    · simp only [Value.ownBlock, Option.some.injEq] at hb hb'
      subst hb; subst hb'
      rw [hg] at hg'
      cases hg'
      exact hne rfl
theorem row_obj {w : World} {base size n : Nat} {e : TypeId} {v : Value} {xs : List Value} (h : w.ownsRow base e size v n xs) {b : Nat} (hb : v.ownBlock = some b) : ∃ cur, w.heap[b]? = some (.cells cur e (0, 0)) := by
  rcases h.2 with ⟨rfl, _⟩ | ⟨g, cap, cur, rfl, _, hg, _⟩
  · cases hb
  · simp only [Value.ownBlock, Option.some.injEq] at hb
    subst hb
    exact ⟨cur, hg⟩
/-- What the map tells of a column. -/
def RowOK (h H : Nat) (p : Nat → Bool) (w : World) (q : List Int × Value) : Prop := ∃ f A c, Fl h (H : Int) f ∧ q.1 = pad4 f ∧ q.2 = .slice A (cS p h H f).length c ∧ w.ownsRow 0 3 1 (.slice A (cS p h H f).length c) (cS p h H f).length (nI (cS p h H f))
/-- The filler's memory. -/
structure FQ (b h H m : Nat) (fv : Value) (p : Nat → Bool) (E : List (List Int × Value)) (w : World) : Prop where
  sf : SF b h H fv m w
  sb : ∃ cur fr, w.heap[b]? = some (.cells cur 103 fr)
  km : KM m E w
  ok : ∀ q ∈ E, RowOK h H p w q
  full : ∃ q ∈ E, q.1 = pad4 (flatC h H)
theorem FQ.step {b h H m : Nat} {fv : Value} {p : Nat → Bool} {E : List (List Int × Value)} {w w' : World} (Q : FQ b h H m fv p E w) (hb : w'.heap[b]? = w.heap[b]?) (hm : w'.heap[m]? = w.heap[m]?) (hr : ∀ q ∈ E, ∀ k, q.2.ownBlock = some k → w'.heap[k]? = w.heap[k]?) : FQ b h H m fv p E w' := by
  have hc : ∀ o, w'.cell? ⟨b, o, none⟩ = w.cell? ⟨b, o, none⟩ := fun o => by simp only [World.cell?]; rw [hb]
  refine ⟨⟨(hc 0).trans Q.sf.c0, (hc 1).trans Q.sf.c1, (hc 2).trans Q.sf.c2, (hc 3).trans Q.sf.c3⟩, ?_, Q.km.keep hm, fun q hq => ?_, Q.full⟩
  · obtain ⟨cur, fr, e⟩ := Q.sb; exact ⟨cur, fr, hb.trans e⟩
  · obtain ⟨f, A, c, h1, h2, h3, h4⟩ := Q.ok q hq
    exact ⟨f, A, c, h1, h2, h3, own_blk h4 fun k hk => hr q hq k (by rw [h3]; exact hk)⟩
theorem FQ.rowlt {b h H m : Nat} {fv : Value} {p : Nat → Bool} {E : List (List Int × Value)} {w : World} (Q : FQ b h H m fv p E w) {q : List Int × Value} (hq : q ∈ E) {k : Nat} (hk : q.2.ownBlock = some k) : k < w.heap.size ∧ ∃ cur, w.heap[k]? = some (.cells cur 3 (0, 0)) := by
  obtain ⟨f, A, c, h1, h2, h3, h4⟩ := Q.ok q hq
  rw [h3] at hk
  exact ⟨(h4.lt k hk).2, row_obj h4 hk⟩
theorem FQ.keep {b h H m : Nat} {fv : Value} {p : Nat → Bool} {E : List (List Int × Value)} {w w' : World} (Q : FQ b h H m fv p E w) (hb : Below w.heap.size w w') : FQ b h H m fv p E w' :=
  Q.step (hb.block _ Q.sf.lt) (hb.block _ Q.km.lt) fun q hq k hk => hb.block _ (Q.rowlt hq hk).1
/-- A block of counts is written. -/
theorem FQ.row {b h H m : Nat} {fv : Value} {p : Nat → Bool} {E : List (List Int × Value)} {w w' : World} {base n : Nat} {v : Value} {xs : List Value} (Q : FQ b h H m fv p E w) (ho : w.ownsRow base 3 1 v n xs) (hg : w.grownBy w' v.ownBlock) (hd : ∀ q ∈ E, ∀ k, q.2.ownBlock = some k → v.ownBlock ≠ some k) : FQ b h H m fv p E w' := by
  refine Q.step (hg.block _ Q.sf.lt fun e => ?_) (hg.block _ Q.km.lt fun e => ?_) fun q hq k hk => hg.block _ (Q.rowlt hq hk).1 fun e => hd q hq k hk e.symm
  · obtain ⟨cur, e1⟩ := row_obj ho e.symm
    obtain ⟨cur', fr, e2⟩ := Q.sb
    rw [e1] at e2
    injection e2 with e2
    injection e2 with _ e2 _
    exact absurd e2 (by decide)
  · obtain ⟨cur, e1⟩ := row_obj ho e.symm
    obtain ⟨es, ck, e2, _⟩ := Q.km.obj
    rw [e1] at e2
    injection e2 with e2
    cases e2
theorem row_not_map {w : World} {m : Nat} {E : List (List Int × Value)} (K : KM m E w) {base size n : Nat} {e : TypeId} {v : Value} {xs : List Value} (ho : w.ownsRow base e size v n xs) {k : Nat} (hk : v.ownBlock = some k) : k ≠ m := by
  rintro rfl
  obtain ⟨cur, e1⟩ := row_obj ho hk
  obtain ⟨es, ck, e2, _⟩ := K.obj
  rw [e1] at e2
  injection e2 with e2
  cases e2
/-- What countsFrom returns. -/
def RetQ (b h H m : Nat) (fv : Value) (p : Nat → Bool) (E : List (List Int × Value)) (f : List Int) (w : World) (e : Ending) (w' : World) : Prop :=
  ∃ A c E', e = .returned (.slice A (cS p h H f).length c) ∧ FQ b h H m fv p E' w' ∧ w'.ownsRow 0 3 1 (.slice A (cS p h H f).length c) (cS p h H f).length (nI (cS p h H f)) ∧
    (∀ q ∈ E', q ∈ E ∨ ∃ k, w.heap.size ≤ k ∧ q.2.ownBlock = some k) ∧ ((∃ q ∈ E, q.2 = .slice A (cS p h H f).length c) ∨ ∃ k, w.heap.size ≤ k ∧ (Value.slice A (cS p h H f).length c).ownBlock = some k) ∧ w.grownBy w' (some m)
theorem cS_pos {p : Nat → Bool} {W : Nat} {H : Int} (hW : 1 ≤ W) {f : List Int} (h : Fl W H f) : 1 ≤ (cS p W H f).length := by
  obtain ⟨x, y, r, hm, hr⟩ := h.rm hW
  by_cases h0 : r = 0
  · subst h0; rw [cS_leaf hm hr]; exact Nat.le_refl _
  · rw [cS_node hW h hm hr h0]
    obtain ⟨r', rfl⟩ : ∃ r', r = r' + 1 := ⟨r - 1, by omega⟩
    rw [cP_succ, addW_len]
    have : ∀ n {g : List Int}, Fl W H g → free W H g ≤ n → 1 ≤ (cS p W H g).length := by
      intro n
      induction n with
      | zero =>
        intro g hg hn
        obtain ⟨x, y, r, hm, hr⟩ := hg.rm hW
        obtain rfl := hg.zero (by omega) hm hr
        rw [cS_leaf hm hr]; exact Nat.le_refl _
      | succ n ih =>
        intro g hg hn
        obtain ⟨x, y, r, hm, hr⟩ := hg.rm hW
        by_cases h0 : r = 0
        · subst h0; rw [cS_leaf hm hr]; exact Nat.le_refl _
        · rw [cS_node hW hg hm hr h0]
          obtain ⟨r', rfl⟩ : ∃ r', r = r' + 1 := ⟨r - 1, by omega⟩
          rw [cP_succ, addW_len]
          have hl := free_less hg hm hr (i := r') (by omega)
          have := ih (hg.next hm hr (s := r' + 1) (by omega)).1 (by omega)
          omega
    have := this _ (h.next hm hr (s := r' + 1) (by omega)).1 (Nat.le_refl _)
    omega
theorem cS_len {p : Nat → Bool} {W : Nat} {H : Int} (hW : 1 ≤ W) : ∀ (n : Nat) {f : List Int}, free W H f ≤ n → Fl W H f → (cS p W H f).length ≤ free W H f + 1 := by
  intro n
  induction n with
  | zero =>
    intro f hn h
    obtain ⟨x, y, r, hm, hr⟩ := h.rm hW
    obtain rfl := h.zero (by omega) hm hr
    rw [cS_leaf hm hr]; simp
  | succ n ih =>
    intro f hn h
    obtain ⟨x, y, r, hm, hr⟩ := h.rm hW
    by_cases h0 : r = 0
    · subst h0; rw [cS_leaf hm hr]; simp
    · rw [cS_node hW h hm hr h0]
      have key : ∀ i, i ≤ r → (cP p W H f x i).length ≤ free W H f + 1 := by
        intro i
        induction i with
        | zero => intro _; simp [cP_zero]
        | succ i ihi =>
          intro hi
          have hl := free_less h hm hr (i := i) (by omega)
          have h2 := ih (by omega) (h.next hm hr (s := i + 1) (by omega)).1
          have h3 := ihi (by omega)
          rw [cP_succ, addW_len]
          have : (if p (i + 1) = true then 1 else 0) ≤ 1 := by split <;> omega
          omega
      exact key r (Nat.le_refl _)
theorem sumP (p : Nat → Bool) (W : Nat) (H : Int) (f : List Int) (x i r : Nat) (hi : i ≤ r) : (cP p W H f x i).sum ≤ (cP p W H f x r).sum := by
  induction r with
  | zero => obtain rfl : i = 0 := by omega
            exact Nat.le_refl _
  | succ r ih =>
    by_cases e : i = r + 1
    · subst e; exact Nat.le_refl _
    · rw [cP_succ, addW_sum]
      have := ih (by omega)
      omega
theorem cP_sum {p : Nat → Bool} {W : Nat} {H : Int} (hW : 1 ≤ W) {f : List Int} (h : Fl W H f) {x r : Nat} {y : Int} (hm : FM f x y) (hr : RM f H x y r) : ∀ i, i ≤ r → (cP p W H f x i).sum ≤ (cP p W H f x r).sum := by
  exact fun i hi => sumP p W H f x i r hi
theorem lenP (p : Nat → Bool) (W : Nat) (H : Int) (f : List Int) (x i r : Nat) (hi : i ≤ r) : (cP p W H f x i).length ≤ (cP p W H f x r).length := by
  induction r with
  | zero => obtain rfl : i = 0 := by omega
            exact Nat.le_refl _
  | succ r ih =>
    by_cases e : i = r + 1
    · subst e; exact Nat.le_refl _
    · rw [cP_succ, addW_len]
      have := ih (by omega)
      omega
theorem told_no (d : Int) (V : World) : Calls Try.prog 54 #[.int .i64 d] V fun e V' => e = .returned (.bool false) ∧ V = V' := by
  go_enter Try.func54, Try.ntmps54
  go_wp2_with fail
  go_ret
  exact ⟨rfl, rfl⟩
theorem told_any (d : Int) (V : World) : Calls Try.prog 57 #[.int .i64 d] V fun e V' => e = .returned (.bool true) ∧ V = V' := by
  go_enter Try.func57, Try.ntmps57
  go_wp2_with fail
  go_ret
  exact ⟨rfl, rfl⟩
theorem getD_le_sum (l : List Nat) (s : Nat) : l.getD s 0 ≤ l.sum := by
  induction l generalizing s with
  | nil => simp
  | cons a l ih =>
    cases s with
    | zero => simp
    | succ s => have := ih s; simp at this ⊢; omega
end Go.Proofs.Ytebnekicbcdnaaa
