/- CountStrips of the program. -/
import Derived.Test.YtebnekicbcdnaaaSe
import Derived.Test.YtebnekicbcdnaaaSy
import Derived.Test.YtebnekicbcdnaaaVal
set_option linter.all false
namespace Go.Proofs.Ytebnekicbcdnaaa
open Go.RowKit

theorem nW_congr {q q' : Nat → Bool} (hq : ∀ i, q (i + 1) = q' (i + 1)) (H : Int) : ∀ (k : Nat) (f : List Int), nW q H k f = nW q' H k f := by
  intro k
  induction k with
  | zero => intro f; rfl
  | succ k ih => intro f; rw [nW, nW]; simp only [ih, hq]
theorem nS_congr {q q' : Nat → Bool} (hq : ∀ i, q (i + 1) = q' (i + 1)) (W : Nat) (H : Int) (f : List Int) : nS q W H f = nS q' W H f := nW_congr hq H _ f
theorem wq_none : ∀ i, wq 0 (i + 1) = (fun _ => false) (i + 1) := fun i => by simp [wq]
theorem prof_zero (h H : Nat) : prof h H H 0 = zeroC h := by
  apply List.ext_getElem?
  intro i
  unfold prof zeroC
  by_cases hi : i < h
  · simp [hi, dg_nil]
  · simp [hi]
theorem vS_start (h H : Nat) : vS (wq 0) h H H 0 = nS (fun _ => false) h (H : Int) (zeroC h) := by
  unfold vS
  rw [prof_zero]
  exact nS_congr wq_none _ _ _
theorem zeroC_fl (h H : Nat) : Fl h (H : Int) (zeroC h) := Fl.start h (by omega)
/-- Counts as they lie. -/
theorem nI_at {w : World} {base n c : Nat} {A : Option Addr} {l : List Nat} (ho : w.ownsRow base 3 1 (.slice A n c) n (nI l)) : IntsAt w w.heap.size A (l.map fun (k : Nat) => (k : Int)) := by
  intro i z hz
  have hi : i < l.length := by have := (List.getElem?_eq_some_iff.1 hz).1; simpa using this
  have hl := ho.1
  rw [nI_len] at hl
  obtain ⟨g, rfl⟩ := own_form ho (by omega)
  refine ⟨g, 0, rfl, (ho.lt g rfl).2, ?_⟩
  rw [Nat.zero_add, ho.cellAt i (by omega)]
  simp only [nI, ints, List.map_map, List.getElem?_map] at hz ⊢
  rw [List.getElem?_eq_getElem hi] at hz ⊢
  simp at hz ⊢
  exact hz
theorem sum_cast (l : List Nat) : (l.map fun (k : Nat) => (k : Int)).sum = ((l.sum : Nat) : Int) := by
  induction l with
  | nil => rfl
  | cons a l ih => simp only [List.map_cons, List.sum_cons, ih]; omega
theorem wsum_nat {l : List Nat} (h : l.sum ≤ 4611686018427387904) : wsumF (l.map fun (k : Nat) => (k : Int)) = ((l.sum : Nat) : Int) := by
  rw [wsumF_eq, sum_cast]
  exact w64 (by omega) (by omega)
set_option maxRecDepth 100000 in
set_option maxHeartbeats 4000000 in
theorem implStr_any (h H : Int) (w : World) : Calls Try.prog 16 #[.int .i64 h, .int .i64 H] w fun e w' => e = .returned (.tuple #[.int .i64 ((cntS h H : Nat) : Int), .bool (inB h 1 4 && inB H 1 30)]) ∧ Below w.heap.size w w' := by
  cases hok : (inB h 1 4 && inB H 1 30) with
  | false =>
    have C := ofS_bad h H hok w
    have e : cntS h H = 0 := by unfold cntS; rw [hok]; rfl
    rw [e]
    clear hok e
    go_enter Try.func16, Try.ntmps16
    go_wp2_with fail
    refine C.mono ?_
    rintro e w' ⟨rfl, rfl⟩
    go_wp2_with fail
    refine (totalOf_any 0 0 none [] _ rfl (by decide) (fun i z hz => by simp at hz)).mono ?_
    rintro e w2 ⟨rfl, hb⟩
    go_wp2_with fail
    go_ret2
    exact ⟨rfl, hb⟩
  | true =>
    obtain ⟨a, b, rfl, rfl, ha1, ha4, hb1, hb30⟩ := inB_ex hok
    have e : cntS (a : Int) (b : Int) = vS (wq 0) a b b 0 := by unfold cntS; rw [hok]; rfl
    have hf := zeroC_fl a b
    have hs := cS_sum (p := (fun _ => false)) ha1 _ (Nat.le_refl _) hf
    have hsm := nS_small (q := (fun _ => false)) ha1 ha4 (show (b : Int) ≤ 30 by omega) hf
    have hln := cS_len (p := (fun _ => false)) ha1 _ (Nat.le_refl _) hf
    have hfr := free_le hf ha4 (show (b : Int) ≤ 30 by omega)
    rw [e, vS_start, ← hs]
    rw [← hs] at hsm
    have C := ofS_no a b ha1 ha4 hb1 hb30 w
    obtain ⟨L, hL⟩ : ∃ L, cS (fun _ => false) a (b : Int) (zeroC a) = L := ⟨_, rfl⟩
    rw [hL] at C hln hsm ⊢
    have hL1 : L.length ≤ 1000 := by omega
    have HC := Lib.hid C
    have HSM := Lib.hid (wsum_nat hsm)
    clear C hok e hf hs hsm hln hfr hL
    go_enter Try.func16, Try.ntmps16
    go_wp2_with fail
    refine HC.out.mono ?_
    rintro e w1 ⟨A, c, rfl, hrow, hb1⟩
    have HT := Lib.hid (totalOf_any L.length c A (L.map fun (k : Nat) => (k : Int)) w1 (by simp) hL1 (nI_at hrow))
    have HB := Lib.hid hb1
    rw [HSM.out] at HT
    clear hrow hb1
    go_wp2_with fail
    refine HT.out.mono ?_
    rintro e w2 ⟨rfl, hb2⟩
    have HBE := Lib.hid (HB.out.trans (hb2.mono HB.out.size))
    clear hb2
    go_wp2_with fail
    go_ret2
    exact ⟨rfl, HBE.out⟩
end Go.Proofs.Ytebnekicbcdnaaa
