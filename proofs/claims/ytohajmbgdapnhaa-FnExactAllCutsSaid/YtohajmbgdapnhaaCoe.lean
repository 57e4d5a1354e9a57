/- AllCuts of the program and of the model. -/
import Derived.Test.YtohajmbgdapnhaaCoc
set_option linter.all false
namespace Go.Proofs.Ytohajmbgdapnhaa
open Go.RowKit Go.Shelf
attribute [local go_sem] Oper.semAt_some

set_option maxRecDepth 100000 in
set_option maxHeartbeats 4000000 in
theorem appC_no (Bs c : Nat) (A : Option Addr) (w : World) (hBs : w.cell? ⟨Bs, 0, none⟩ = some (.slice A 0 c)) :
    Calls Try.prog 105 #[.slice none 0 0, .func (.func 143) #[] #[.pointer (some ⟨Bs, 0, none⟩)]] w fun e w' => e = .returned (.slice none 0 0) ∧ Below w.heap.size w w' := by
  obtain ⟨W2, hW2⟩ : ∃ W2, W2 = w.alloc (.cells #[.slice none 0 0] 22) := ⟨_, rfl⟩
  have hz2 : W2.heap.size = w.heap.size + 1 := by rw [hW2]; simp
  have hB2 : Below w.heap.size w W2 := by rw [hW2]; exact (Below.refl _ _).alloc (Nat.le_refl _) _
  have hX2 : Boxed W2 w.heap.size 22 (.slice none 0 0) := by rw [hW2]; exact Boxed.new _ _ _
  have hc2 := (hB2.cell (p := ⟨Bs, 0, none⟩) (World.block_lt_of_cell? _ _ hBs)).trans hBs
  refine (callsIn_wide (n := 5)).1 ?_
  refine callsIn_of_wp_marks Try.func105 rfl trivial ?_ rfl
  simp only [Try.ntmps105, List.size_toArray, List.length_cons, List.length_nil, Nat.reduceAdd, Nat.reduceSub, Array.replicate_succ, Array.replicate_zero, List.push_toArray, List.append_toArray, List.nil_append, List.cons_append]
  gi_wp2
  rw [← hW2]
  clear hW2
  refine wpIn_rangeFunc_x rfl (by decide) (gf := 143) (lb := #[.pointer (some ⟨Bs, 0, none⟩)]) rfl trivial (enters_of Try.func143 (by kernel_rfl) rfl)
    (emptyC_seq _ Bs c A W2 hc2) (fun X x A k o o' h hk ho => h.elim) (Below.refl _ _) (fun _ => rfl)
    (fun X pre V => (∀ k, X k → W2.heap.size ≤ k) ∧ (Boxed V w.heap.size 22 (.slice none 0 0) ∧ Below w.heap.size w V)) (fun _ _ _ => False)
    (ownX_below W2.heap.size (fun (pre : List CV) V => Boxed V w.heap.size 22 (.slice none 0 0) ∧ Below w.heap.size w V) (fun s A C h hb => ⟨(hb.block w.heap.size (by omega)).trans h.1, h.2.trans (hb.mono (by omega))⟩))
    ⟨fun _ _ _ _ _ h _ _ _ => h, fun _ _ _ _ _ _ h _ _ _ => h, fun _ _ _ _ h _ => h⟩ ⟨fun k h => h.elim, hX2, hB2⟩
    (fun x a' V => False) (fun x a' A k o o' h hk ho => h) ?assign ?body ?done ?stop
  case assign =>
    rintro l X pre x V K _ hok
    exact hok.elim
  case body =>
    rintro l X pre x a' V _ hok
    exact hok.elim
  case done =>
    rintro D ys X V hD hys ⟨_, hv, hB⟩ hK
    have hvc := hv.cell
    clear hBs hc2 hX2
    gi_wp2
    refine ⟨by simp, .inl ⟨_, _, rfl, run_takeDeferred hK, ?_⟩⟩
    exact ⟨_, results_tmp rfl _ _ _, rfl, hB.trans (belowK_b (w := w) (Nat.le_refl _) V D _ _ (by omega) hK rfl rfl)⟩
  case stop =>
    intro D pre V _ _ h
    exact h.elim
set_option maxRecDepth 100000 in
set_option maxHeartbeats 2000000 in
theorem collC_no (Bs c : Nat) (A : Option Addr) (w : World) (hBs : w.cell? ⟨Bs, 0, none⟩ = some (.slice A 0 c)) :
    Calls Try.prog 54 #[.func (.func 143) #[] #[.pointer (some ⟨Bs, 0, none⟩)]] w fun e w' => e = .returned (.slice none 0 0) ∧ Below w.heap.size w w' := by
  have HC := Lib.hid (appC_no Bs c A w hBs)
  clear hBs
  go_enter Try.func54, Try.ntmps54
  go_wp2_with fail
  (with_reducible refine HC.out.mono ?_)
  rintro e w2 ⟨rfl, hb⟩
  go_wp2_with fail
  go_ret
  exact ⟨rfl, hb⟩
theorem RetAC.none_ {w w' : World} {W H : Int} (hno : okL W H = false) (hb : Below w.heap.size w w') : RetAC w W H (.returned (.tuple #[.slice none 0 0, .bool false])) w' := by
  unfold RetAC
  rw [hno]
  exact ⟨none, 0, [], rfl, rfl, ⟨World.ownsRow_nil _ _ _ _, fun x hx => (by cases hx)⟩, List.Pairwise.nil, hb⟩
set_option maxRecDepth 100000 in
set_option maxHeartbeats 2000000 in
theorem implAC_any (W H : Int) (w : World) : Calls Try.prog 16 #[.int .i64 W, .int .i64 H] w (RetAC w W H) := by
  cases hok : okL W H with
  | true =>
    obtain ⟨a, b, rfl, rfl⟩ := okL_ex hok
    exact implAC_yes a b hok w
  | false =>
    have HC := Lib.hid (listed_no W H hok w)
    have HOK := Lib.hid hok
    clear hok
    go_enter Try.func16, Try.ntmps16
    go_wp2_with fail
    (with_reducible refine HC.out.mono ?_)
    rintro e w2 ⟨Bs, A, c, rfl, hc, hb2⟩
    have HN := Lib.hid (collC_no Bs c A w2 hc)
    clear hc
    go_wp2_with fail
    (with_reducible refine HN.out.mono ?_)
    rintro e w3 ⟨rfl, hb3⟩
    go_wp2_with fail
    go_ret2
    exact RetAC.none_ HOK.out (hb2.trans (hb3.mono hb2.size))
/-- What the model's AllCuts returns. -/
def RetAS (w : World) (W H : Int) (e : Ending) (w' : World) : Prop :=
  ∃ A c Cs, e = .returned (.tuple #[.slice A Cs.length c, .bool (okL W H)]) ∧ Cs.map (·.1) = (if okL W H then allF W.toNat H.toNat else []) ∧ CL w.heap.size W H Cs (.slice A Cs.length c) w' ∧ Below w.heap.size w w'
set_option maxRecDepth 100000 in
set_option maxHeartbeats 2000000 in
theorem specAC_any (W H : Int) (w : World) : Calls Try.prog 15 #[.int .i64 W, .int .i64 H] w (RetAS w W H) := by
  have hs := ctFew_any W H w
  cases hok : okL W H with
  | false =>
    rw [hok] at hs
    have HOK := Lib.hid hok
    clear hok
    go_enter Try.func15, Try.ntmps15
    go_wp2_with fail
    refine hs.mono ?_
    rintro e w' ⟨rfl, rfl⟩
    go_wp2_with fail
    go_ret2
    unfold RetAS
    rw [HOK.out]
    exact ⟨none, 0, [], rfl, rfl, ⟨World.ownsRow_nil _ _ _ _, fun x hx => (by cases hx)⟩, Below.refl _ _⟩
  | true =>
    obtain ⟨a, b, rfl, rfl⟩ := okL_ex hok
    have hh := okL_nat.1 hok
    rw [hok] at hs
    have C := Lib.hid (ctAll_any a b (by omega) (by omega) (by omega) w)
    have HOK := Lib.hid hok
    clear hok hh
    go_enter Try.func15, Try.ntmps15
    go_wp2_with fail
    refine hs.mono ?_
    rintro e w' ⟨rfl, rfl⟩
    go_wp2_with fail
    (with_reducible refine C.out.mono ?_)
    rintro e w2 ⟨A, c, Cs, rfl, hm, hcl, hb⟩
    go_wp2_with fail
    go_ret2
    unfold RetAS
    rw [HOK.out]
    exact ⟨A, c, Cs, rfl, by rw [hm]; rfl, hcl, hb⟩
end Go.Proofs.Ytohajmbgdapnhaa
