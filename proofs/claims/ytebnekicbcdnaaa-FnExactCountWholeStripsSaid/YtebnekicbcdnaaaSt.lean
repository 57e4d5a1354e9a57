/- Shifted columns; waysFrom. -/
import Derived.Test.YtebnekicbcdnaaaSl
set_option linter.all false
namespace Go.Proofs.Ytebnekicbcdnaaa
open Go.RowKit

/-- Every row filled so much farther. -/
def shD (d : Int) (f : List Int) : List Int := f.map (· + d)
theorem shD_len (d : Int) (f : List Int) : (shD d f).length = f.length := by simp [shD]
theorem shD_get (d : Int) (f : List Int) (i : Nat) : (shD d f)[i]? = f[i]?.map (· + d) := by simp [shD]
theorem shD_get' {d : Int} {f : List Int} {i : Nat} {u : Int} (h : (shD d f)[i]? = some u) : f[i]? = some (u - d) := by
  rw [shD_get] at h
  cases hf : f[i]? with
  | none => rw [hf] at h; cases h
  | some v => rw [hf] at h; simp at h; subst h; simp
theorem shD_fl {W : Nat} {H d : Int} {f : List Int} (hd : 0 ≤ d) (h : Fl W H f) : Fl W (H + d) (shD d f) :=
  ⟨by rw [shD_len, h.len], fun i u hu => by have := h.lo i _ (shD_get' hu); omega, fun i u hu => by have := h.hi i _ (shD_get' hu); omega⟩
theorem shD_fm {d : Int} {f : List Int} {x : Nat} {y : Int} (h : FM f x y) : FM (shD d f) x (y + d) :=
  ⟨by rw [shD_get, h.1]; rfl, fun i u hu => by have := h.2.1 i _ (shD_get' hu); omega, fun i u hi hu => by have := h.2.2 i _ hi (shD_get' hu); omega⟩
theorem shD_rm {d H y : Int} {f : List Int} {x r : Nat} (h : RM f H x y r) : RM (shD d f) (H + d) x (y + d) r :=
  ⟨by rw [shD_len]; exact h.w, by have := h.h; omega, fun i h1 h2 => by rw [shD_get, h.l i h1 h2]; rfl, fun ⟨h1, h2, h3⟩ => h.n ⟨by rw [shD_len] at h1; exact h1, by omega, by have := shD_get' h3; rw [this]; congr 1; omega⟩⟩
theorem shD_lift (d : Int) (f : List Int) (x n : Nat) (v : Int) : liftF (shD d f) x n v = shD d (liftF f x n v) := by
  apply List.ext_getElem?
  intro i
  rw [liftF_get, shD_get, shD_get, liftF_get]
  cases f[i]? with
  | none => rfl
  | some u => simp only [Option.map_some]; congr 1; split <;> omega
theorem shD_sum (d : Int) (f : List Int) : (shD d f).sum = f.sum + f.length * d := by
  unfold shD
  induction f with
  | nil => simp
  | cons a f ih => simp only [List.map_cons, List.sum_cons, ih, List.length_cons, Int.natCast_succ, Int.add_mul]; omega
theorem shD_free {W : Nat} {H d : Int} {f : List Int} (h : Fl W H f) : free W (H + d) (shD d f) = free W H f := by
  unfold free
  rw [shD_sum, h.len, Int.mul_add]
  congr 1
  omega
theorem nS_sh {q : Nat → Bool} {W : Nat} {H d : Int} (hW : 1 ≤ W) (hd : 0 ≤ d) : ∀ (n : Nat) {f : List Int}, free W H f < n → Fl W H f → nS q W (H + d) (shD d f) = nS q W H f := by
  intro n
  induction n with
  | zero => intro f hn; omega
  | succ n ih =>
    intro f hn h
    obtain ⟨x, y, r, hm, hr⟩ := h.rm hW
    by_cases h0 : r = 0
    · subst h0; rw [nS_leaf hm hr, nS_leaf (shD_fm hm) (shD_rm hr)]
    · rw [nS_node hW h hm hr h0, nS_node hW (shD_fl hd h) (shD_fm hm) (shD_rm hr) h0]
      congr 1
      refine List.map_congr_left fun i hi => ?_
      have hi := List.mem_range.1 hi
      have hl := free_less h hm hr hi
      rw [shD_lift, ih (by omega) (h.next hm hr (s := i + 1) (by omega)).1]
theorem shD_zero (h : Nat) (d : Int) : shD d (zeroC h) = flatC h d := by simp [shD, zeroC, flatC]
/-- A strip of some columns at the right end. -/
theorem nS_flat {q : Nat → Bool} {h H n : Nat} (h1 : 1 ≤ h) (hn : n ≤ H) : nS q h (H : Int) (flatC h ((H - n : Nat) : Int)) = nS q h (n : Int) (zeroC h) := by
  have := nS_sh (q := q) (d := ((H - n : Nat) : Int)) h1 (by omega) _ (Nat.lt_succ_self _) (zeroC_fl h n)
  rw [← this, shD_zero]
  congr 1
  omega
theorem flat_fl' {h H n : Nat} (hn : n ≤ H) : Fl h (H : Int) (flatC h (n : Int)) := by
  refine ⟨by simp [flatC], fun i u hu => ?_, fun i u hu => ?_⟩ <;>
  · unfold flatC at hu; rw [List.getElem?_replicate] at hu; split at hu <;> cases hu; omega
set_option maxRecDepth 100000 in
set_option maxHeartbeats 4000000 in
theorem wf_no (b h H m : Nat) (h1 : 1 ≤ h) (h4 : h ≤ 4) (hH : H ≤ 30) (f : List Int) (E : List (List Int × Value)) (w : World) (hf : Fl h (H : Int) f) (Q : FQ b h H m (.func (.func 54) #[] #[]) (fun _ => false) E w) : Calls Try.prog 84 #[.pointer (some ⟨b, 0, none⟩), arr (pad4 f)] w fun e w' => ∃ E', e = .returned (.int .i64 ((nS (fun _ => false) h (H : Int) f : Nat) : Int)) ∧ FQ b h H m (.func (.func 54) #[] #[]) (fun _ => false) E' w' ∧ w.grownBy w' (some m) := by
  have hlen := hf.len
  obtain ⟨g0, g1, g2, g3, hg⟩ := len4 (pad4_len (f := f) (by omega))
  obtain ⟨W1, hW1⟩ : ∃ W1, W1 = w.alloc (.cells #[.int .i64 g0, .int .i64 g1, .int .i64 g2, .int .i64 g3] 82) := ⟨_, rfl⟩
  have hb1 : Below w.heap.size w W1 := by rw [hW1]; exact (Below.refl _ _).alloc (Nat.le_refl _) _
  have HB1 := Lib.hid hb1
  have C := cf_no b h H m h1 h4 hH _ f E W1 (Nat.lt_succ_self _) hf (Q.keep hb1)
  have hs := cS_sum (p := (fun _ => false)) h1 _ (Nat.le_refl _) hf
  have hsm := nS_small (q := (fun _ => false)) h1 h4 (show (H : Int) ≤ 30 by omega) hf
  have hln := cS_len (p := (fun _ => false)) h1 _ (Nat.le_refl _) hf
  have hfr := free_le hf h4 (show (H : Int) ≤ 30 by omega)
  rw [← hs] at hsm ⊢
  unfold RetQ at C
  obtain ⟨L, hL⟩ : ∃ L, cS (fun _ => false) h (H : Int) f = L := ⟨_, rfl⟩
  rw [hL] at C hln hsm ⊢
  have hL1 : L.length ≤ 1000 := by omega
  rw [hg] at C ⊢
  simp only [arr, ints, List.map_cons, List.map_nil] at C ⊢
  rw [hW1] at C
  have HW := Lib.hid hW1
  have HC := Lib.hid C
  have HSM := Lib.hid (wsum_nat hsm)
  clear C hs hsm hln hfr hL hg hW1 hb1 hlen Q hf
  go_enter Try.func84, Try.ntmps84
  go_wp2_with fail
  (with_reducible refine HC.out.mono ?_)
  rintro e w1 ⟨A, c, E', rfl, Q1, hrow, _, _, hg1⟩
  have HT := Lib.hid (totalOf_any L.length c A (L.map fun (k : Nat) => (k : Int)) w1 (by simp) hL1 (nI_at hrow))
  have HQ := Lib.hid Q1
  rw [← HW.out] at hg1
  have HG := Lib.hid (grown_trans (grown_of_below HB1.out (some m)) hg1)
  rw [HSM.out] at HT
  clear hrow Q1 hg1
  go_wp2_with fail
  refine HT.out.mono ?_
  rintro e w2 ⟨rfl, hb2⟩
  have HQ2 := Lib.hid (HQ.out.keep hb2)
  have HG2 := Lib.hid (grown_trans HG.out (grown_of_below hb2 (some m)))
  clear hb2
  go_wp2_with fail
  go_ret
  exact ⟨E', rfl, HQ2.out, HG2.out⟩
end Go.Proofs.Ytebnekicbcdnaaa
