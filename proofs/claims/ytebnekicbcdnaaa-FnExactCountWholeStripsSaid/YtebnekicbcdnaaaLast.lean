/- A drawn region whose last operations wait for all others: a fact on worlds serves the others though the last ones break it. -/
import Derived.OrdersHeld
import Derived.StillTail
import Derived.Deep.RegionHeld3
import Derived.Test.YtebnekicbcdnaaaPlain
set_option linter.all false
namespace Go.Proofs.Ytebnekicbcdnaaa
open Go.RowKit
section
variable {P : Program} {ops : Array Oper} {Q : Exit → Act → World → Prop} {md : Region.Mode} {S : World → Prop}

/-- Whatever order is drawn; S holds behind each of the first n operations. -/
def wpTop (P : Program) (md : Region.Mode) (ops : Array Oper) (Q : Exit → Act → World → Prop) (S : World → Prop) (n : Nat) : Nat → Array Bool → Act → World → Prop
  | 0, done, a, w => Region.ready md ops done = [] ∧ Q .normal a w
  | f + 1, done, a, w =>
    (Region.ready md ops done = [] → Q .normal a w) ∧
    ∀ i ∈ Region.ready md ops done, wpOp P ops Q i (fun a' w' => (i < n → S w') ∧ wpTop P md ops Q S n f (done.setIfInBounds i true) a' w') a w
theorem wpTop.plain {n : Nat} : ∀ (f : Nat) (done : Array Bool) (a : Act) (w : World), wpTop P md ops Q S n f done a w → wpAny P md ops Q f done a w
  | 0, _, _, _, h => h
  | f + 1, _, _, _, h => ⟨h.1, fun i hi => wpOp_mono (fun a' w' k => wpTop.plain f _ a' w' k.2) (h.2 i hi)⟩

theorem wpTop.pull {n i : Nat} {o : Oper} {v : Value} (ho : ops[i]? = some o) (nosel : Region.noSelect ops = true) (hin : i < n)
    (late : ((List.range ops.size).all fun j => decide (j < n) || Region.waitsFor md ops j i) = true) (hQ : ∀ c a w, Q (.panic c) (a.put o.dst v) w → Q (.panic c) a w) (f : Nat) :
    ∀ (done : Array Bool) (a : Act) (w : World), (∀ j oj, ops[j]? = some oj → j ≠ i → done.getD j true = false → (∀ e ∈ oj.after, Region.binds md e = true → e.on ≠ i) → o.apart ops oj = true) →
      i ∈ Region.ready md ops done → YieldsIf P ops S o v a → S w → wpTop P md ops Q S n f (done.setIfInBounds i true) (a.put o.dst v) w → wpTop P md ops Q S n (f + 1) done a w := by
  have sel := Region.noSelect_spec nosel
  induction f with
  | zero =>
    intro done a w _ hr hy hS H
    refine ⟨fun e => (by rw [e] at hr; cases hr), fun j hj => ?_⟩
    by_cases e : j = i
    · subst e; exact hy.wpOp ho hS ⟨fun _ => hS, H⟩
    · have := ready_mono hj e
      rw [H.1] at this
      cases this
  | succ f ih =>
    intro done a w free hr hy hS H
    refine ⟨fun e => (by rw [e] at hr; cases hr), fun j hj => ?_⟩
    by_cases e : j = i
    · subst e; exact hy.wpOp ho hS ⟨fun _ => hS, H⟩
    · obtain ⟨freshj, oj, hoj, aft⟩ := mem_ready.1 hj
      have fresh := getD_both (mem_ready.1 hr).1
      have off : ∀ e ∈ oj.after, Region.binds md e = true → e.on ≠ i := fun e he hb k => by
        have k1 := aft e he hb
        rw [k, fresh] at k1
        cases k1
      have hjn : j < n := by
        have hsz : j < ops.size := (Array.getElem?_eq_some_iff.1 hoj).1
        have l1 := List.all_eq_true.1 late j (List.mem_range.2 hsz)
        rw [Bool.or_eq_true] at l1
        rcases l1 with l1 | l1
        · exact of_decide_eq_true l1
        · obtain ⟨oj', hoj', e', he', hb', ho'⟩ := Region.waitsFor_spec l1
          have : oj' = oj := Option.some.inj (hoj'.symm.trans hoj)
          subst this
          exact absurd ho' (off e' he' hb')
      have h1 := H.2 j (ready_mono hj e)
      have h2 := wpOp_putIf hoj (free j oj hoj e freshj off) (fun cs b => sel i o cs b ho) (fun cs b => sel j oj cs b hoj) hQ hy h1
      refine wpOp_mono (fun a' w' h3 => ⟨h3.2.1, ih (done.setIfInBounds j true) a' w' (fun k ok hk hki hun hno => ?_) (ready_mono hr (Ne.symm e)) h3.1 (h3.2.1 hjn) ?_⟩) h2
      · refine free k ok hk hki ?_ hno
        by_cases c : j = k
        · exact c ▸ freshj
        · rwa [getD_set_ne true c] at hun
      · rw [Array.setIfInBounds_comm _ _ e]
        exact h3.2.2

theorem wpTop.take (i : Nat) {n : Nat} {o : Oper} {v : Value} {f : Nat} {done : Array Bool} {a : Act} {w : World} (ho : ops[i]? = some o) (nosel : Region.noSelect ops = true) (free : Region.free md ops done i = true)
    (hr : (Region.ready md ops done).contains i = true) (late : (decide (i < n) && (List.range ops.size).all fun j => decide (j < n) || Region.waitsFor md ops j i) = true)
    (hQ : ∀ c a w, Q (.panic c) (a.put o.dst v) w → Q (.panic c) a w) (hy : YieldsIf P ops S o v a) (hS : S w)
    (h : wpTop P md ops Q S n f (done.setIfInBounds i true) (a.put o.dst v) w) : wpTop P md ops Q S n (f + 1) done a w := by
  rw [Bool.and_eq_true, decide_eq_true_eq] at late
  exact wpTop.pull ho nosel late.1 late.2 hQ f done a w (Region.free_spec ho free) (by simpa using hr) hy hS h

/-- The one operation that may come. -/
theorem wpTop.one (i : Nat) {n : Nat} {o : Oper} {f : Nat} {done : Array Bool} {a : Act} {w : World} (ho : ops[i]? = some o) (hr : Region.ready md ops done = [i])
    (h : ∀ K' : Act → World → Prop, Shut (∀ a w, (i < n → S w) → ((i < n → S w) → wpTop P md ops Q S n f (done.setIfInBounds i true) a w) → K' a w) →
      if Region.wanted o (yielded ops a.tmps) = true then Oper.wp P o a w K' Q else K' (a.put o.dst undef) w) : wpTop P md ops Q S n (f + 1) done a w := by
  refine ⟨fun e => (by rw [hr] at e; cases e), fun j hj => ?_⟩
  rw [hr] at hj
  obtain rfl := List.mem_singleton.1 hj
  exact wpOp_step ho fun K' hK => h K' fun a w hS hW => hK a w ⟨hS, hW hS⟩
theorem wpTop.all {n : Nat} {done : Array Bool} {a : Act} {w : World} (hr : Region.ready md ops done = []) (h : Q .normal a w) : ∀ f, wpTop P md ops Q S n f done a w
  | 0 => ⟨hr, h⟩
  | _ + 1 => ⟨fun _ => h, by rw [hr]; simp⟩
theorem wp_region_top (n : Nat) (S : World → Prop) {id : Nat} {a : Act} {w : World} (hm : P.follows .mixedOrders = true) (hS : S w.drew)
    (h : S w.drew → wpTop P .any ops Q S n ops.size (Array.replicate ops.size false) a w.drew) : (Code.region id ops true).wp P Q a w :=
  wp_region_any hm (wpTop.plain _ _ _ _ (h hS))
end
end Go.Proofs.Ytebnekicbcdnaaa
