/- PzT, PzU, PzX, PzY: texts in one. -/
import Derived.Test.YtchabjmdjpfkfaaGreatPzG2
import Derived.Laws.StructEq
import Derived.Test.YtchabjmdjpfkfaaGreatPzF
import Derived.Test.YtchabjmdjpfkfaaGreatCoc
import Derived.Test.YtchabjmdjpfkfaaGreatCtlA
set_option linter.all false
namespace Go.Proofs.YtchabjmdjpfkfaaGreat
open Go.RowKit

/-- The cut's box, for a closure. -/
structure KBox (V : World) (b : Nat) (W H : Int) (AM : Option Addr) (cc : Nat) (M : List Sq) : Prop where
  box : Cv3 b V (.int .i64 W) (.int .i64 H) (.slice AM M.length cc)
  sq : SqsAt V V.heap.size AM M
theorem KBox.keep {V V' : World} {b : Nat} {W H : Int} {AM : Option Addr} {cc : Nat} {M : List Sq} (h : KBox V b W H AM cc M) (hb : Below V.heap.size V V') : KBox V' b W H AM cc M := ⟨h.box.next hb, (h.sq.below hb).mono hb.size⟩
set_option maxRecDepth 100000 in
set_option maxHeartbeats 4000000 in
theorem fitClo_any (s : Sq) (hs : AskOk s) (W H : Int) (AM : Option Addr) (cc : Nat) (M : List Sq) (b : Nat) (w : World) (hcl : M.length ≤ cc) (hwf : ∀ s ∈ M, wfS s) (hG : Good W H M) (hK : KBox w b W H AM cc M) :
    Calls Tryz.prog 63 #[.agg #[.int .i64 s.x, .int .i64 s.y, .int .i64 s.d], .pointer (some ⟨b, 0, none⟩)] w fun e w' => e = .returned (.bool (!fitN W H M s)) ∧ Below w.heap.size w w' := by
  have B0 : Below w.heap.size w (w.alloc (.cells #[.int .i64 s.x, .int .i64 s.y, .int .i64 s.d] 60)) := (Below.refl _ _).alloc (Nat.le_refl _) _
  have K0 := Cv3.start w (.int .i64 s.x) (.int .i64 s.y) (.int .i64 s.d) 60
  have J0 := hK.keep B0
  have hlt := hK.box.lt
  go_enter Tryz.func63, Tryz.ntmps63
  go_wp2_with fail
  obtain ⟨W0, hW0⟩ : ∃ W0, W0 = w.alloc (.cells #[.int .i64 s.x, .int .i64 s.y, .int .i64 s.d] 60) := ⟨_, rfl⟩
  rw [← hW0] at B0 K0 J0 ⊢
  clear hW0
  have C := fun (u : Later W0.heap.size W0) => asCut_any s W H AM M.length cc M u.val rfl hcl ((J0.keep u.ok).sq) hwf hG hs
  have F0 : ∀ u : Later W0.heap.size W0, u.val.cell? ⟨w.heap.size, 0, none⟩ = some (.int .i64 s.x) := fun u => (u.ok.cell (p := ⟨_, _, none⟩) K0.lt).trans K0.c0
  have F1 : ∀ u : Later W0.heap.size W0, u.val.cell? ⟨w.heap.size, 1, none⟩ = some (.int .i64 s.y) := fun u => (u.ok.cell (p := ⟨_, _, none⟩) K0.lt).trans K0.c1
  have F2 : ∀ u : Later W0.heap.size W0, u.val.cell? ⟨w.heap.size, 2, none⟩ = some (.int .i64 s.d) := fun u => (u.ok.cell (p := ⟨_, _, none⟩) K0.lt).trans K0.c2
  have G0 : ∀ u : Later W0.heap.size W0, u.val.cell? ⟨b, 0, none⟩ = some (.int .i64 W) := fun u => (u.ok.cell (p := ⟨_, _, none⟩) J0.box.lt).trans J0.box.c0
  have G1 : ∀ u : Later W0.heap.size W0, u.val.cell? ⟨b, 1, none⟩ = some (.int .i64 H) := fun u => (u.ok.cell (p := ⟨_, _, none⟩) J0.box.lt).trans J0.box.c1
  have G2 : ∀ u : Later W0.heap.size W0, u.val.cell? ⟨b, 2, none⟩ = some (.slice AM M.length cc) := fun u => (u.ok.cell (p := ⟨_, _, none⟩) J0.box.lt).trans J0.box.c2
  have heq := eqClueV
  refine wp_region_sub W0.heap.size (by kernel_rfl) (by kernel_rfl) ?_
  repeat (first | go_big_quiet_step ((go_at_call 64; exact sub_of _ (Nat.le_refl _) (C _))) | quiet_step ((go_at_call 64; exact sub_of _ (Nat.le_refl _) (C _))))
  refine wpQuiet_nil ?_
  rintro w3 ⟨uu, hu⟩
  have hb2 : Below W0.heap.size W0 w3 := by rw [hu]; exact uu.ok
  clear hu uu F0 F1 F2 G0 G1 G2 C
  go_wp2_with fail
  go_ret
  exact ⟨ret_bool (by rw [hasIt_fit, Bool.not_and, Bool.not_and]), B0.trans (hb2.mono B0.size)⟩
def fitL (W H : Int) (M : List Sq) (L : List Sq) : Prop := ∀ s ∈ L, fitN W H M s = true
set_option maxRecDepth 100000 in
set_option maxHeartbeats 4000000 in
theorem indexFit_any (A : Option Addr) (n c : Nat) (L : List Sq) (W H : Int) (AM : Option Addr) (cc : Nat) (M : List Sq) (b : Nat) (w : World) (hl : L.length = n) (hn : n ≤ 1048576) (hL : SqsAt w w.heap.size A L) (hs : ∀ s ∈ L, AskOk s) (hcl : M.length ≤ cc) (hwf : ∀ s ∈ M, wfS s) (hG : Good W H M) (hK : KBox w b W H AM cc M) :
    Calls Tryz.prog 76 #[.slice A n c, .func (.func 63) #[] #[.pointer (some ⟨b, 0, none⟩)]] w fun e w' => ∃ r : Int, e = .returned (.int .i64 r) ∧ (0 ≤ r ↔ ¬ fitL W H M L) ∧ Below w.heap.size w w' := by
  go_enter Tryz.func76, Tryz.ntmps76
  go_wp2_with fail
  go_loopw [8] (fun i wr => ∃ k : Nat, k ≤ n ∧ i = .int .i64 k ∧ (∀ j s, j < k → L[j]? = some s → fitN W H M s = true) ∧ Below w.heap.size w wr) (fun i _ => n - (intOf i).toNat)
  case atStart => exact ⟨0, Nat.zero_le _, rfl, fun j s h => absurd h (Nat.not_lt_zero _), Below.refl _ _⟩
  case round =>
    obtain ⟨k, hk, rfl, hpre, hbr⟩ := hrel
    by_cases hlt : k < n
    · obtain ⟨s, hs'⟩ : ∃ s, L[k]? = some s := ⟨_, List.getElem?_eq_getElem (by rw [hl]; exact hlt)⟩
      have hask := hs s (List.mem_of_getElem? hs')
      obtain ⟨bb, off, rfl, hb, c0, c1, c2⟩ := hL k s hs'
      have HP := Lib.hid hpre
      have HS := Lib.hid hs'
      have HL := Lib.hid hl
      have c0' := (hbr.cell (p := ⟨bb, off + k * 3, none⟩) hb).trans c0
      have c1' := (hbr.cell (p := ⟨bb, off + k * 3 + 1, none⟩) hb).trans c1
      have c2' := (hbr.cell (p := ⟨bb, off + k * 3 + 2, none⟩) hb).trans c2
      have i0 : (0 : Int) ≤ (k : Int) := by omega
      have i1 : (k : Int) < (n : Int) := by omega
      have C := fitClo_any s hask W H AM cc M b wr hcl hwf hG (hK.keep hbr)
      clear c0 c1 c2 hL hpre hs' hl hs
      cases hf : fitN W H M s with
      | true =>
        rw [hf] at C
        go_wp2_with fail
        refine C.mono ?_
        rintro e w2 ⟨rfl, hb2⟩
        clear c0' c1' c2'
        go_wp2_with fail
        go_roundw
        case rel =>
          refine ⟨k + 1, by omega, by go_num, fun j t hj ht => ?_, hbr.trans (hb2.mono hbr.size)⟩
          rcases (by omega : j < k ∨ j = k) with h | rfl
          · exact HP.out j t h ht
          · rw [HS.out] at ht; cases ht; exact hf
        case measure => simp [intOf]; omega
      | false =>
        rw [hf] at C
        go_wp2_with fail
        refine C.mono ?_
        rintro e w2 ⟨rfl, hb2⟩
        clear c0' c1' c2'
        go_wp2_with fail
        go_ret
        refine ⟨k, rfl, ⟨fun _ h => ?_, fun _ => by omega⟩, hbr.trans (hb2.mono hbr.size)⟩
        rw [h s (List.mem_of_getElem? HS.out)] at hf; cases hf
    · obtain rfl : k = n := by omega
      have HP := Lib.hid hpre
      have HL := Lib.hid hl
      clear hpre hL hl hs
      go_wp2_with fail
      go_ret
      refine ⟨-1, rfl, ⟨fun h => by omega, fun h => absurd (fun s hs => ?_) h⟩, hbr⟩
      obtain ⟨j, hj⟩ := List.getElem?_of_mem hs
      have hj' := (List.getElem?_eq_some_iff.1 hj).1
      exact HP.out j s (by have := HL.out; omega) hj
theorem containsFit_any (A : Option Addr) (n c : Nat) (L : List Sq) (W H : Int) (AM : Option Addr) (cc : Nat) (M : List Sq) (b : Nat) (w : World) (hl : L.length = n) (hn : n ≤ 1048576) (hL : SqsAt w w.heap.size A L) (hs : ∀ s ∈ L, AskOk s) (hcl : M.length ≤ cc) (hwf : ∀ s ∈ M, wfS s) (hG : Good W H M) (hK : KBox w b W H AM cc M) :
    Calls Tryz.prog 62 #[.slice A n c, .func (.func 63) #[] #[.pointer (some ⟨b, 0, none⟩)]] w fun e w' => e = .returned (.bool (!dc (fitL W H M L))) ∧ Below w.heap.size w w' := by
  have C := Lib.hid (indexFit_any A n c L W H AM cc M b w hl hn hL hs hcl hwf hG hK)
  clear hL hK hl
  go_enter Tryz.func62, Tryz.ntmps62
  go_wp2_with fail
  (with_reducible refine C.out.mono ?_)
  rintro e w2 ⟨r, rfl, hr, hb⟩
  go_wp2_with fail
  go_ret
  refine ⟨ret_bool ?_, hb⟩
  by_cases h : fitL W H M L
  · rw [dc_true h]; have : ¬ 0 ≤ r := fun h' => (hr.1 h') h
    simp; omega
  · rw [dc_false h]; have := hr.2 h
    simp; omega
theorem fitsAll_any (A : Option Addr) (n c : Nat) (L : List Sq) (W H : Int) (AM : Option Addr) (cc : Nat) (M : List Sq) (w : World) (hl : L.length = n) (hn : n ≤ 1048576) (hL : SqsAt w w.heap.size A L) (hs : ∀ s ∈ L, AskOk s) (hcl : M.length ≤ cc) (hwf : ∀ s ∈ M, wfS s) (hG : Good W H M) (hM : SqsAt w w.heap.size AM M) :
    Calls Tryz.prog 46 #[.agg #[.int .i64 W, .int .i64 H, .slice AM M.length cc], .slice A n c] w fun e w' => e = .returned (.bool (dc (fitL W H M L))) ∧ Below w.heap.size w w' := by
  have hmf : ∀ (fn : Fn) (first cap : Array Value) (w : World), (Instr.makeFunc fn first cap).run Tryz.prog w = .ok (.func fn first cap) w := fun _ _ _ _ => rfl
  have B0 : Below w.heap.size w (w.alloc (.cells #[.int .i64 W, .int .i64 H, .slice AM M.length cc] 48)) := (Below.refl _ _).alloc (Nat.le_refl _) _
  have C := Lib.hid (containsFit_any A n c L W H AM cc M w.heap.size (w.alloc (.cells #[.int .i64 W, .int .i64 H, .slice AM M.length cc] 48)) hl hn ((hL.below B0).mono B0.size) hs hcl hwf hG ⟨Cv3.start _ _ _ _ _, (hM.below B0).mono B0.size⟩)
  clear hL hM hl
  go_enter Tryz.func46, Tryz.ntmps46
  go_wp2_with fail
  (with_reducible refine C.out.mono ?_)
  rintro e w2 ⟨rfl, hb⟩
  go_wp2_with fail
  go_ret
  exact ⟨ret_bool (by simp), B0.trans (hb.mono B0.size)⟩
end Go.Proofs.YtchabjmdjpfkfaaGreat
namespace Go.Proofs.YtchabjmdjpfkfaaGreat
open Go.RowKit Go.Shelf
attribute [local go_sem] Oper.semAt_some

theorem okP_okL {W H : Int} (h : okP W H = true) : okL W H = true := by
  have h' := okP_iff.1 h
  unfold okL
  rw [Bool.and_eq_true, okF_iff, decide_eq_true_iff]
  omega
noncomputable def fitB (W H : Int) (L : List Sq) (M : List Sq) : Bool := dc (fitL W H M L)
/-- The solutions. -/
noncomputable def solV (W H : Int) (L : List Sq) : List (List Sq) := if dc (GoodP W H L) then (allF W.toNat H.toNat).filter (fitB W H L) else []
theorem GoodP.ask {W H : Int} {L : List Sq} (h : GoodP W H L) : ∀ s ∈ L, AskOk s := fun s hs => (h.2.2 s hs).ask
theorem OwnX.comp {β γ : Type} {B B' : Nat} {J : (Nat → Prop) → γ → World → Prop} (h : OwnX B J) (g : β → γ) (hB : B ≤ B') : OwnX B' (fun X s V => J X (g s) V) :=
  ⟨fun X s A C row hi hg hb hr => h.grow X (g s) A C row hi hg (Nat.le_trans hB hb) hr, fun X s A k o o' hi hb hk ho => h.turn X (g s) A k o o' hi (Nat.le_trans hB hb) hk ho, fun X X' s A hi hx => h.less X X' (g s) A hi hx⟩
/-- Those that have come and fit. -/
noncomputable def kept (W H : Int) (L : List Sq) (pre : List CV) : List CV := pre.filter fun x => fitB W H L x.1
theorem kept_yes {W H : Int} {L : List Sq} {x : CV} (h : fitB W H L x.1 = true) (pre : List CV) : kept W H L (pre ++ [x]) = kept W H L pre ++ [x] := by unfold kept; rw [List.filter_append]; simp [h]
theorem kept_no {W H : Int} {L : List Sq} {x : CV} (h : fitB W H L x.1 = false) (pre : List CV) : kept W H L (pre ++ [x]) = kept W H L pre := by unfold kept; rw [List.filter_append]; simp [h]
theorem kept_map (W H : Int) (L : List Sq) (pre : List CV) : (kept W H L pre).map (·.1) = (pre.map (·.1)).filter (fitB W H L) := by
  unfold kept
  induction pre with
  | nil => rfl
  | cons x r ih => cases h : fitB W H L x.1 <;> simp [h, ih]
theorem IM.keepB {N W H : Nat} {w V V2 : World} {X : Nat → Prop} {pre : List CV} {x : CV} (h : IM N W H w X pre x V) (hb : Below V.heap.size V V2) (hN : N < V.heap.size) : IM N W H w X pre x V2 := by
  refine ⟨h.1.turnB (fun k hk _ _ => hb.block k hk) (h.1.below.trans (hb.mono (by omega))) (fun k hk => .inl hk) hN, ⟨h.2.1.1, own_keep h.2.1.2.1 hb, h.2.1.2.2⟩, h.2.2⟩
set_option maxRecDepth 100000 in
set_option maxHeartbeats 16000000 in
theorem solve_yes (W H : Nat) (A : Option Addr) (n c : Nat) (L : List Sq) (w : World) (hl : L.length = n) (hn9 : n ≤ 9223372036854775807) (hL : SqsAt w w.heap.size A L) (hP : GoodP W H L) :
    Calls Tryz.prog 23 #[.agg #[.int .i64 W, .int .i64 H, .slice A n c]] w fun e w' => ∃ A' c' Cs, e = .returned (.tuple #[.slice A' Cs.length c', .bool true]) ∧ Cs.map (·.1) = (allF W H).filter (fitB W H L) ∧ CL w.heap.size W H Cs (.slice A' Cs.length c') w' ∧ (Cs.Pairwise fun x y => ∀ b, blk x = some b → blk y ≠ some b) ∧ Below w.heap.size w w' := by
  have hok := okP_okL hP.1
  have hh := okL_nat.1 hok
  have hfew := allF_few hok
  have hask := hP.ask
  have hn6 : n ≤ 1048576 := by have := hP.2.1; omega
  have B0 : Below w.heap.size w (w.alloc (.cells #[.int .i64 W, .int .i64 H, .slice A n c] 31)) := (Below.refl _ _).alloc (Nat.le_refl _) _
  have K0 := Cv3.start w (.int .i64 W) (.int .i64 H) (.slice A n c) 31
  have C0 := Lib.hid (callB_yes (implIsPuz_any W H A n c L _ hl hn9 ((hL.below B0).mono B0.size)) hP)
  obtain ⟨kl, k0, k1, k2⟩ := id K0
  refine (callsIn_wide (n := 5)).1 ?_
  refine callsIn_of_wp_marks Tryz.func23 rfl trivial ?_ rfl
  simp only [Tryz.ntmps23, List.size_toArray, List.length_cons, List.length_nil, Nat.reduceAdd, Nat.reduceSub, Array.replicate_succ, Array.replicate_zero, List.push_toArray, List.append_toArray, List.nil_append, List.cons_append]
  gi_wp2_with fail
  refine ⟨trivial, (callsIn_wide.2 C0.out).mono ?_⟩
  rintro e w1 ⟨rfl, hb⟩
  clear kl k0 k1 k2 C0
  replace K0 := K0.next hb
  replace B0 := B0.trans (hb.mono B0.size)
  clear hb
  obtain ⟨kl, k0, k1, k2⟩ := id K0
  gi_wp2_with fail
  clear kl k0 k1 k2
  obtain ⟨W2, hW2⟩ : ∃ W2, W2 = w1.alloc (.cells #[.slice none 0 0] 42) := ⟨_, rfl⟩
  have hB2 : Below w1.heap.size w1 W2 := by rw [hW2]; exact (Below.refl _ _).alloc (Nat.le_refl _) _
  have hz2 : W2.heap.size = w1.heap.size + 1 := by rw [hW2]; simp
  have hX2 : Boxed W2 w1.heap.size 42 (.slice none 0 0) := by rw [hW2]; exact Boxed.new _ _ _
  rw [← hW2]
  refine ⟨trivial, (callsIn_wide.2 (fillings_any W H W2)).mono ?_⟩
  rintro e W4 ⟨rfl, hW4⟩
  have hz4 : W4.heap.size = w1.heap.size + 3 := by rw [hW4]; simp; omega
  have hB4 : Below W2.heap.size W2 W4 := by rw [hW4]; exact ((Below.refl _ _).alloc (Nat.le_refl _) _).alloc (by simp) _
  have hX4 : Boxed W4 w1.heap.size 42 (.slice none 0 0) := (hB4.block w1.heap.size (by omega)).trans hX2
  have hB14 : Below w1.heap.size w1 W4 := hB2.trans (hB4.mono (by omega))
  have cw : W4.cell? ⟨w1.heap.size + 1, 0, none⟩ = some (.int .i64 W) := by rw [← hz2, hW4, World.cell?_alloc_lt _ _ _ (by simp)]; simp [go_sem]
  have ch : W4.cell? ⟨w1.heap.size + 1 + 1, 0, none⟩ = some (.int .i64 H) := by rw [← hz2, hW4]; simp [go_sem]
  have hseq := fun n => fill_seqz W H hh.1.1 hh.1.2 n (w1.heap.size + 1) (w1.heap.size + 1 + 1) W4 cw ch
  have hA4 : AL w1.heap.size W H w1 (fun _ => False) (kept W H L []) W4 := ⟨⟨none, 0, hX4, World.ownsRow_nil _ _ _ _, fun b hb => (by cases hb)⟩, fun x hx => (by cases hx), fun x hx => (by cases hx), List.Pairwise.nil, fun k h => h.elim, hB14⟩
  have hO := (AL.own (N := w1.heap.size) (W := W) (H := H) (w := w1)).comp (kept W H L) (B' := W4.heap.size) (by omega)
  obtain ⟨i0, hi, hz0, hz1, hzb⟩ := info_parts infoCut
  have HOK := Lib.hid hok
  have HFEW := Lib.hid hfew
  have HB0 := Lib.hid B0
  have hp0 := K0.c0
  have hp1 := K0.c1
  have hp2 := K0.c2
  have hpl := K0.lt
  have hL1 := (hL.below B0).mono B0.size
  clear hfew hX2 hok hX4 hW2 hW4 hL B0 K0 cw ch hB2 hB4
  gi_wp2_with fail
  refine wpIn_rangeFunc_z rfl (by decide) (gf := 60) (lb := #[.pointer (some ⟨w1.heap.size + 1, 0, none⟩), .pointer (some ⟨w1.heap.size + 1 + 1, 0, none⟩)]) rfl trivial (enters_of Tryz.func60 (by kernel_rfl) rfl)
    (hseq _) (Below.refl _ _) (fun _ => rfl)
    (fun X pre V => AL w1.heap.size W H w1 X (kept W H L pre) V) (fun _ _ _ => False) hO
    ⟨fun _ _ _ _ _ h _ _ _ => h, fun _ _ _ _ _ _ h _ _ _ => h, fun _ _ _ _ h _ => h⟩ hA4
    (fun X pre x V => IM w1.heap.size W H w1 X (kept W H L pre) x V) (fun X pre x V hi hok hX ⟨X', hi', hbl⟩ hN => ⟨hi, ⟨hok.1, own_base hok.2.1 (by omega), hok.2.2⟩, fun y hy b hb he => hi'.sx y hy b he (hbl b hb), Nat.lt_of_le_of_lt (List.length_filter_le _ _) hN⟩)
    (fun X pre x A k o o' h hB hk ho => ⟨hO.turn X pre A k o o' h.1 hB hk ho, ⟨h.2.1.1, okC_put h.2.1.2 hk ho⟩, h.2.2⟩)
    (fun x a' V => ∃ Bx, V.cell? ⟨Bx, 0, none⟩ = some (.int .i64 W) ∧ V.cell? ⟨Bx, 1, none⟩ = some (.int .i64 H) ∧ V.cell? ⟨Bx, 2, none⟩ = some (.slice x.2.1 x.1.length x.2.2) ∧ a' = { tmps := #[.agg #[.int .i64 W, .int .i64 H, .slice A n c], .pointer (some ⟨w.heap.size, 0, none⟩), .slice none 0 0, .bool false, .pointer (some ⟨w1.heap.size, 0, none⟩), .pointer (some ⟨Bx, 0, none⟩), .agg #[.int .i64 W, .int .i64 H, .slice A n c], .bool true, .bool false, .pointer (some ⟨w.heap.size, 0, none⟩), .int .i64 W, .pointer (some ⟨w.heap.size, 1, none⟩), .int .i64 H, .func (.func 60) #[] #[.pointer (some ⟨w1.heap.size + 1, 0, none⟩), .pointer (some ⟨w1.heap.size + 1 + 1, 0, none⟩)], .agg #[.int .i64 W, .int .i64 H, .slice x.2.1 x.1.length x.2.2], undef, undef, undef, undef, undef, undef, undef, undef, undef], defers := [] })
    (fun x a' A k o o' h hk ho => by
      obtain ⟨Bx, h0, h1, h2, h3⟩ := h
      have q : ∀ {p : Addr} {v : Value}, A.cell? p = some v → (A.putObj k o').cell? p = some v := fun h => cell_kept h (grownBy_putObj' A k o') (fun r e => by cases e; exact ⟨o, hk, ho⟩)
      exact ⟨Bx, q h0, q h1, q h2, h3⟩) ?assign ?body ?done ?stop
  case assign =>
    rintro l X pre ⟨M, AM, cc⟩ V K hm hX2 hsz hK
    dsimp only [encC]
    gi_wp2
    exact hK _ _ ((KeepsOthers.alloc _ _).from _) ⟨by simp, fun k hk => Below.heap_alloc V _ k (hX2 k hk).2⟩ (hm.keepB ((Below.refl _ _).alloc (Nat.le_refl _) _) (by omega)) ⟨V.heap.size, by simp [go_sem], by simp [go_sem], by simp [go_sem], rfl⟩
  case body =>
    rintro l X pre ⟨M, AM, cc⟩ a' V hm ⟨Bx, x0, x1, x2, rfl⟩ hX2 hsz
    dsimp only at x0 x1 x2 ⊢
    have hbx := World.block_lt_of_cell? _ _ x0
    dsimp only at hbx
    have hbl := hm.1.below
    have hGM := allF_good HOK.out M hm.2.1.1
    have hsq := sqs_of_own hm.2.1.2.1
    have hcap := own_cap hm.2.1.2.1
    have q0 := (hbl.cell (p := ⟨w.heap.size, 0, none⟩) hpl).trans hp0
    have q1 := (hbl.cell (p := ⟨w.heap.size, 1, none⟩) hpl).trans hp1
    have q2 := (hbl.cell (p := ⟨w.heap.size, 2, none⟩) hpl).trans hp2
    have FIT := Lib.hid (fitsAll_any A n c L W H AM cc M V hl hn6 ((hL1.below hbl).mono hbl.size) hask hcap (wf_good hGM) hGM hsq)
    have HM := Lib.hid hm
    have HX2 := Lib.hid hX2
    clear hm hseq hA4 hO hsq hL1 hGM hX2
    gi_wp2_with fail
    (try refine ⟨trivial, ?_⟩)
    refine (CallsIn.inRound l (callsIn_wide.2 FIT.out)).mono ?_
    rintro e V2 ⟨rfl, hb2⟩
    have hs2 := hb2.size
    have hm2 := HM.out.keepB hb2 (by omega)
    have y0 := (hb2.cell (p := ⟨Bx, 0, none⟩) hbx).trans x0
    have y1 := (hb2.cell (p := ⟨Bx, 1, none⟩) hbx).trans x1
    have y2 := (hb2.cell (p := ⟨Bx, 2, none⟩) hbx).trans x2
    have kx2 : KeepX X V V2 := ⟨hs2, fun k hk => hb2.block k (HX2.out k hk).2⟩
    have kf2 : KeepsFrom W4.heap.size V V2 := keepsFrom_below hb2
    have KX2 := Lib.hid kx2
    have KF2 := Lib.hid kf2
    clear x0 x1 x2 q0 q1 q2 kx2 kf2
    cases hf : fitB W H L M with
    | false =>
      rw [show dc (fitL W H M L) = false from hf]
      have HM2 := Lib.hid hm2
      clear hm2
      gi_wp2_with fail
      exact ⟨KF2.out, KX2.out, by dsimp only; rw [kept_no hf]; exact HM2.out.1⟩
    | true =>
      rw [show dc (fitL W H M L) = true from hf]
      obtain ⟨A1, c1, hv, hrow, hnx⟩ := hm2.1.box
      have hvc := hv.cell
      have hBs : w1.heap.size ≤ V2.heap.size := hm2.1.below.size
      have HM2 := Lib.hid hm2
      have hpl : (kept W H L pre).length ≤ 65535 := by have := hm2.2.2.2; have := HFEW.out; omega
      obtain ⟨P, hP⟩ : ∃ P, kept W H L pre = P := ⟨_, rfl⟩
      rw [hP] at hv hrow hnx hvc hpl HM2
      have hb1 : P.length + 1 ≤ maxLen := by unfold maxLen; omega
      have hb2' : (P.length + 1) * 40 ≤ 140737488355328 := by omega
      have HPP := Lib.hid hP
      clear hm2 hP
      gi_wp2_with (gi_at_builtin; refine wpListIn_app2 _ rfl _ _ 42 rfl w1.heap.size 48 i0 (.agg #[.int .i64 0, .int .i64 0, .slice none 0 0]) 3 40 Tryz.underlying42 hi hz0 hz1 hzb rfl (by decide) A1 P.length c1 _ rfl (hrow.alloc _) ⟨V2.heap.size, 0, none⟩ 1 1 [.int .i64 W, .int .i64 H, .slice AM M.length cc] (by decide) rfl rfl (new3 _ _ _ _ _) (oneCut _ _ _ _ _) hb1 hb2' (by simp; omega) ?_; intro A6 c6 w6 hown6 hcase; have hg : (V2.alloc (.cells #[.int .i64 W, .int .i64 H, .slice AM M.length cc] 48)).grownBy w6 (Value.slice A1 P.length c1).ownBlock := (by rcases hcase with ⟨_, _, h⟩ | ⟨_, h⟩; exact h; exact ⟨h.os, h.tape, h.output, h.size, fun k hk _ => h.block k hk (by simp)⟩); obtain ⟨hv1, hv2, hr2, hk2, hb3⟩ := hv.appended (by decide) hrow hBs (Nat.le_refl _) hown6 hg; have hc1 := hv1.cell; have hf1 := hv1.frozen)
      have hcc : ∀ b, (Value.slice A6 (P.length + 1) c6).ownBlock = some b → (Value.slice A1 P.length c1).ownBlock = some b ∨ V2.heap.size < b := fun b hb => by
        rcases hcase with ⟨h, _, _⟩ | ⟨h, _⟩
        · subst h; exact .inl ((ob_len _ _ _ _).trans hb)
        · rw [h] at hb; simp at hb; exact .inr (by omega)
      obtain ⟨kx, al⟩ := AL.push (x := ((M, AM, cc) : CV)) HM2.out (fun k hk => by have := (HX2.out k hk).2; omega) hv hrow hnx hg hcc hv2 (by simpa [cutV] using hr2) hb3
      exact ⟨KF2.out.trans (hk2.from _), KX2.out.trans kx, by dsimp only; rw [kept_yes hf, HPP.out]; exact al⟩
  case done =>
    rintro D ys X V hD hys hA hK
    obtain ⟨A', c', hv, hrow, _⟩ := hA.box
    have hvc := hv.cell
    have HA := Lib.hid hA
    have HR := Lib.hid hrow
    clear hA hseq hA4 hO hrow
    gi_wp2
    refine ⟨by simp, .inl ⟨_, _, rfl, run_takeDeferred hK, ?_⟩⟩
    have hw : w.heap.size ≤ w1.heap.size := HB0.out.size
    have tk : ∀ {e : TypeId} {s n : Nat} {v : Value} {xs : List Value}, V.ownsRow w1.heap.size e s v n xs → (V.putObj D (.deferred none)).ownsRow w.heap.size e s v n xs := fun h => own_base (ownsRow_putObj h (.deferred none) hK rfl) hw
    exact ⟨_, results_tmp2 rfl _ _ _, A', c', kept W H L ys, rfl, by rw [kept_map, hys], ⟨tk HR.out, fun x hx => tk (HA.out.sq x hx)⟩, HA.out.apart, HB0.out.trans ((HA.out.below.trans (belowK_b (w := w1) (Nat.le_refl _) V D _ _ (by omega) hK rfl rfl)).mono hw)⟩
  case stop =>
    intro D pre W _ _ h
    exact h.elim
/-- What Solutions returns: the list's cuts share no memory. -/
def RetSol (w : World) (W H : Int) (L : List Sq) (e : Ending) (w' : World) : Prop :=
  ∃ A c Cs, e = .returned (.tuple #[.slice A Cs.length c, .bool (dc (GoodP W H L))]) ∧ Cs.map (·.1) = solV W H L ∧ CL w.heap.size W H Cs (.slice A Cs.length c) w' ∧ (Cs.Pairwise fun x y => ∀ b, blk x = some b → blk y ≠ some b) ∧ Below w.heap.size w w'
theorem implSol_any (W H : Int) (A : Option Addr) (n c : Nat) (L : List Sq) (w : World) (hl : L.length = n) (hn9 : n ≤ 9223372036854775807) (hL : SqsAt w w.heap.size A L) :
    Calls Tryz.prog 23 #[.agg #[.int .i64 W, .int .i64 H, .slice A n c]] w (RetSol w W H L) := by
  by_cases hP : GoodP W H L
  · obtain ⟨a, rfl⟩ := Int.eq_ofNat_of_zero_le (show 0 ≤ W by have := hP.size; omega)
    obtain ⟨b, rfl⟩ := Int.eq_ofNat_of_zero_le (show 0 ≤ H by have := hP.size; omega)
    refine (solve_yes a b A n c L w hl hn9 hL hP).mono ?_
    rintro e w' ⟨A', c', Cs, rfl, hm, hcl, hap, hb⟩
    exact ⟨A', c', Cs, by rw [dc_true hP], by unfold solV; rw [dc_true hP]; exact hm, hcl, hap, hb⟩
  · have B0 : Below w.heap.size w (w.alloc (.cells #[.int .i64 W, .int .i64 H, .slice A n c] 31)) := (Below.refl _ _).alloc (Nat.le_refl _) _
    have C0 := Lib.hid (callB_no (implIsPuz_any W H A n c L _ hl hn9 ((hL.below B0).mono B0.size)) hP)
    clear hL hl
    go_enter Tryz.func23, Tryz.ntmps23
    go_wp2_with fail
    (with_reducible refine C0.out.mono ?_)
    rintro e w1 ⟨rfl, hb⟩
    go_wp2_with fail
    go_ret2
    refine ⟨none, 0, [], by rw [dc_false hP]; rfl, by unfold solV; rw [dc_false hP]; rfl, ⟨World.ownsRow_nil _ _ _ _, fun x hx => (by cases hx)⟩, List.Pairwise.nil, B0.trans (hb.mono B0.size)⟩
theorem sol_few {W H : Int} {L : List Sq} : (solV W H L).length ≤ 65536 := by
  unfold solV
  by_cases hP : GoodP W H L
  · rw [dc_true hP]
    obtain ⟨a, rfl⟩ := Int.eq_ofNat_of_zero_le (show 0 ≤ W by have := hP.size; omega)
    obtain ⟨b, rfl⟩ := Int.eq_ofNat_of_zero_le (show 0 ≤ H by have := hP.size; omega)
    exact Nat.le_trans (List.length_filter_le _ _) (allF_few (okP_okL hP.1))
  · rw [dc_false hP]; simp
/-- A call of a function with a puzzle alone, that hands it on: the count and whether it is solved. -/
theorem implCountSol_any (W H : Int) (A : Option Addr) (n c : Nat) (L : List Sq) (w : World) (hl : L.length = n) (hn9 : n ≤ 9223372036854775807) (hL : SqsAt w w.heap.size A L) :
    Calls Tryz.prog 49 #[.agg #[.int .i64 W, .int .i64 H, .slice A n c]] w fun e w' => e = .returned (.tuple #[.int .i64 (solV W H L).length, .bool (dc (GoodP W H L))]) ∧ Below w.heap.size w w' := by
  have B0 : Below w.heap.size w (w.alloc (.cells #[.int .i64 W, .int .i64 H, .slice A n c] 31)) := (Below.refl _ _).alloc (Nat.le_refl _) _
  have C0 := Lib.hid (implSol_any W H A n c L _ hl hn9 ((hL.below B0).mono B0.size))
  clear hL hl
  go_enter Tryz.func49, Tryz.ntmps49
  go_wp2_with fail
  (with_reducible refine C0.out.mono ?_)
  rintro e w1 ⟨A', c', Cs, rfl, hm, -, -, hb⟩
  have hlen : Cs.length = (solV W H L).length := by rw [← hm]; simp
  rw [hlen]
  have hf := sol_few (W := W) (H := H) (L := L)
  obtain ⟨N, hN⟩ : ∃ N, (solV W H L).length = N := ⟨_, rfl⟩
  obtain ⟨r, hr⟩ : ∃ r, dc (GoodP W H L) = r := ⟨_, rfl⟩
  rw [hN] at hf
  rw [hN, hr]
  have HN := Lib.hid hN
  have HR := Lib.hid hr
  clear hm hlen hN hr
  go_wp2_with fail
  go_ret2
  exact ⟨by rw [HN.out, HR.out]; rfl, B0.trans (hb.mono B0.size)⟩
theorem implSolved_any (W H : Int) (A : Option Addr) (n c : Nat) (L : List Sq) (w : World) (hl : L.length = n) (hn9 : n ≤ 9223372036854775807) (hL : SqsAt w w.heap.size A L) :
    Calls Tryz.prog 29 #[.agg #[.int .i64 W, .int .i64 H, .slice A n c]] w fun e w' => e = .returned (.tuple #[.bool (((solV W H L).length : Int) == 1), .bool (dc (GoodP W H L))]) ∧ Below w.heap.size w w' := by
  have B0 : Below w.heap.size w (w.alloc (.cells #[.int .i64 W, .int .i64 H, .slice A n c] 31)) := (Below.refl _ _).alloc (Nat.le_refl _) _
  have C0 := Lib.hid (implCountSol_any W H A n c L _ hl hn9 ((hL.below B0).mono B0.size))
  clear hL hl
  go_enter Tryz.func29, Tryz.ntmps29
  go_wp2_with fail
  (with_reducible refine C0.out.mono ?_)
  rintro e w1 ⟨rfl, hb⟩
  obtain ⟨N, hN⟩ : ∃ N, (solV W H L).length = N := ⟨_, rfl⟩
  obtain ⟨r, hr⟩ : ∃ r, dc (GoodP W H L) = r := ⟨_, rfl⟩
  rw [hN, hr]
  have HN := Lib.hid hN
  have HR := Lib.hid hr
  clear hN hr
  go_wp2_with fail
  go_ret2
  exact ⟨by rw [HN.out, HR.out]; rfl, B0.trans (hb.mono B0.size)⟩
end Go.Proofs.YtchabjmdjpfkfaaGreat
namespace Go.Proofs.YtchabjmdjpfkfaaGreat
open Go.RowKit Go.Shelf

/-- Whether the first j clues fit. -/
noncomputable def fitsU (W H : Int) (M L : List Sq) (j : Nat) : Bool := (L.take j).all (fitN W H M)
theorem fitsU_succ {W H : Int} {M L : List Sq} {j : Nat} {s : Sq} (h : L[j]? = some s) : fitsU W H M L (j + 1) = (fitsU W H M L j && fitN W H M s) := by
  unfold fitsU
  rw [List.take_add_one, h, List.all_append]
  simp
theorem fitsU_all (W H : Int) (M L : List Sq) : fitsU W H M L L.length = fitB W H L M := by
  unfold fitsU fitB
  rw [List.take_length, Bool.eq_iff_iff, List.all_eq_true, dc_iff]
  rfl
/-- Those of the first k that fit. -/
noncomputable def keptU (W H : Int) (L : List Sq) (Cs : List CV) (k : Nat) : List CV := kept W H L (Cs.take k)
theorem keptU_succ {W H : Int} {L : List Sq} {Cs : List CV} {k : Nat} {x : CV} (h : Cs[k]? = some x) : keptU W H L Cs (k + 1) = if fitB W H L x.1 then keptU W H L Cs k ++ [x] else keptU W H L Cs k := by
  unfold keptU
  rw [List.take_add_one, h]
  cases hf : fitB W H L x.1 with
  | true => exact kept_yes hf _
  | false => exact kept_no hf _
theorem keptU_len (W H : Int) (L : List Sq) (Cs : List CV) (k : Nat) : (keptU W H L Cs k).length ≤ Cs.length := Nat.le_trans (List.length_filter_le _ _) (by rw [List.length_take]; omega)
set_option maxRecDepth 100000 in
set_option maxHeartbeats 16000000 in
theorem pzAll_any (W H : Int) (n0 : Nat) (A : Option Addr) (c : Nat) (Cs : List CV) (AL_ : Option Addr) (n cL : Nat) (L : List Sq) (w : World) (hn0 : n0 ≤ w.heap.size) (hfew : Cs.length ≤ 65536) (hCL : CL n0 W H Cs (.slice A Cs.length c) w) (hG : ∀ x ∈ Cs, Good W H x.1)
    (hl : L.length = n) (hn : n ≤ 1048576) (hL : SqsAt w w.heap.size AL_ L) (hask : ∀ s ∈ L, AskOk s) :
    Calls Tryz.prog 19 #[.slice A Cs.length c, .slice AL_ n cL] w fun e w' => ∃ A' c', e = .returned (.slice A' (kept W H L Cs).length c') ∧ CL n0 W H (kept W H L Cs) (.slice A' (kept W H L Cs).length c') w' ∧ Below w.heap.size w w' := by
  obtain ⟨i0, hi, hz0, hz1, hzb⟩ := info_parts infoCut
  obtain ⟨m, hm⟩ : ∃ m, Cs.length = m := ⟨_, rfl⟩
  rw [hm] at hfew ⊢
  have HMM := Lib.hid hm
  clear hm
  go_enter Tryz.func19, Tryz.ntmps19
  go_wp2_with fail
  go_loopw [5, 13] (fun o i wr => ∃ (k : Nat) (A' : Option Addr) (c' : Nat), k ≤ m ∧ i = .int .i64 k ∧ o = .slice A' (keptU W H L Cs k).length c' ∧ wr.ownsRow w.heap.size 48 3 (.slice A' (keptU W H L Cs k).length c') (keptU W H L Cs k).length (cutsV W H (keptU W H L Cs k)) ∧ Below w.heap.size w wr) (fun _ i _ => m - (intOf i).toNat)
  case atStart => exact ⟨0, none, 0, Nat.zero_le _, rfl, rfl, World.ownsRow_nil _ _ _ _, Below.refl _ _⟩
  case round =>
    obtain ⟨k, A', c', hk, rfl, rfl, hown, hbr⟩ := hrel
    by_cases hlt : k < m
    · obtain ⟨x, hx⟩ : ∃ x, Cs[k]? = some x := ⟨_, List.getElem?_eq_getElem (by rw [HMM.out]; exact hlt)⟩
      have hCr := hCL.keep hbr
      obtain ⟨g, rfl⟩ := own_form hCL.own (by have := HMM.out; omega)
      obtain ⟨x0, x1, x2⟩ := hCr.at hx
      have hxm := List.mem_of_getElem? hx
      have hxo := hCr.sq x hxm
      have hsq := sqs_of_own hxo
      have hcap := own_cap hxo
      have hGx := hG x hxm
      have hsu := keptU_succ (W := W) (H := H) (L := L) hx
      have hkl := keptU_len W H L Cs k
      rw [HMM.out] at hkl
      obtain ⟨P, hP⟩ : ∃ P, keptU W H L Cs k = P := ⟨_, rfl⟩
      rw [hP] at hown hsu hkl ⊢
      have hL' := (hL.below hbr).mono hbr.size
      have HSU := Lib.hid hsu
      have HOWN := Lib.hid hown
      have HBR := Lib.hid hbr
      have i1 : (0 : Int) ≤ (k : Int) := by omega
      have i2 : (k : Int) < (m : Int) := by omega
      obtain ⟨M, AM, cc⟩ := x
      dsimp only at x0 x1 x2 hsq hcap hGx hsu
      clear hsu hP hx hxm hxo hCr hown hbr hL hCL
      go_wp2_with fail
      obtain ⟨W1, hW1⟩ : ∃ W1, W1 = wr.alloc (.cells #[.int .i64 W, .int .i64 H, .slice AM M.length cc] 48) := ⟨_, rfl⟩
      have hb1 : Below wr.heap.size wr W1 := by rw [hW1]; exact (Below.refl _ _).alloc (Nat.le_refl _) _
      have hK : KBox W1 wr.heap.size W H AM cc M := by rw [hW1]; exact ⟨Cv3.start _ _ _ _ _, (hsq.below ((Below.refl _ _).alloc (Nat.le_refl _) _)).mono (by simp)⟩
      have hL1 := (hL'.below hb1).mono hb1.size
      rw [← hW1]
      have HB1 := Lib.hid hb1
      clear hW1 hsq hL' hb1 x0 x1 x2
      go_loopw [8, 19] (fun f i wr => ∃ j : Nat, j ≤ n ∧ i = .int .i64 j ∧ f = .bool (fitsU W H M L j) ∧ Below W1.heap.size W1 wr) (fun _ i _ => n - (intOf i).toNat)
      case atStart => exact ⟨0, Nat.zero_le _, rfl, by simp [fitsU], Below.refl _ _⟩
      case round =>
        obtain ⟨j, hj, rfl, rfl, hbi⟩ := hrel
        by_cases hlj : j < n
        · obtain ⟨s, hs⟩ : ∃ s, L[j]? = some s := ⟨_, List.getElem?_eq_getElem (by rw [hl]; exact hlj)⟩
          obtain ⟨b, off, rfl, hb, c0, c1, c2⟩ := hL1 j s hs
          have c0' := (hbi.cell (p := ⟨b, off + j * 3, none⟩) hb).trans c0
          have c1' := (hbi.cell (p := ⟨b, off + j * 3 + 1, none⟩) hb).trans c1
          have c2' := (hbi.cell (p := ⟨b, off + j * 3 + 2, none⟩) hb).trans c2
          have hsu := fitsU_succ (W := W) (H := H) (M := M) hs
          have hsk := hask s (List.mem_of_getElem? hs)
          have hKi := hK.keep hbi
          have i3 : (0 : Int) ≤ (j : Int) := by omega
          have i4 : (j : Int) < (n : Int) := by omega
          have HSU2 := Lib.hid hsu
          have hbc : Below wr.heap.size wr (wr.alloc (.cells #[.int .i64 s.x, .int .i64 s.y, .int .i64 s.d] 60)) := (Below.refl _ _).alloc (Nat.le_refl _) _
          have hKc := hKi.keep hbc
          have hblt := hKi.box.lt
          have C := Lib.hid (pzFits_any s W H AM M.length cc M _ rfl hcap hKc.sq hGx hsk)
          obtain ⟨kl, k0, k1, k2⟩ := id hKc.box
          have HBC := Lib.hid hbc
          clear c0 c1 c2 hs hsu hL1 hbc hKc hl
          cases hf : fitsU W H M L j with
          | true =>
            go_wp2_with fail
            (with_reducible refine C.out.mono ?_)
            rintro e w2 ⟨rfl, hb2⟩
            have hb3 := HBC.out.trans (hb2.mono HBC.out.size)
            clear c0' c1' c2' kl k0 k1 k2 hKi
            go_wp2_with fail
            go_roundw
            case rel => exact ⟨j + 1, by omega, by go_num, by rw [HSU2.out, hf]; simp, hbi.trans (hb3.mono hbi.size)⟩
            case measure => simp [intOf]; omega
          | false =>
            clear C
            go_wp2_with fail
            have hb3 := HBC.out
            clear c0' c1' c2' kl k0 k1 k2 hKi
            go_roundw
            case rel => exact ⟨j + 1, by omega, by go_num, by rw [HSU2.out, hf]; simp, hbi.trans (hb3.mono hbi.size)⟩
            case measure => simp [intOf]; omega
        · obtain rfl : j = n := by omega
          have hfa : fitsU W H M L j = fitB W H L M := by rw [← hl]; exact fitsU_all _ _ _ _
          rw [hfa]
          have hKi := hK.keep hbi
          have hown1 := own_keep HOWN.out (HB1.out.trans (hbi.mono HB1.out.size))
          have hbr1 := HBR.out.trans ((HB1.out.trans (hbi.mono HB1.out.size)).mono HBR.out.size)
          have HBR1 := Lib.hid hbr1
          have hzz := hbr1.size
          obtain ⟨kl, k0, k1, k2⟩ := id hKi.box
          clear hfa hL1 hKi hbr1
          cases hf : fitB W H L M with
          | false =>
            have HO1 := Lib.hid hown1
            clear hown1
            go_wp2_with fail
            go_roundw
            case rel => exact ⟨k + 1, A', c', by omega, by go_num, by rw [HSU.out, hf]; rfl, by rw [HSU.out, hf]; exact HO1.out, HBR1.out⟩
            case measure => simp [intOf]; omega
          | true =>
            have hb1 : P.length + 1 ≤ maxLen := by unfold maxLen; omega
            have hb2' : (P.length + 1) * 40 ≤ 140737488355328 := by omega
            go_wp2_with (at_builtin; refine app_list rfl _ _ _ rfl w.heap.size 48 i0 (.agg #[.int .i64 0, .int .i64 0, .slice none 0 0]) 3 40 Tryz.underlying42 hi hz0 hz1 hzb rfl (by decide) (.slice A' P.length c') P.length _ rfl (hown1.alloc _) (some ⟨wr.heap.size, 0, none⟩) 1 1 [.int .i64 W, .int .i64 H, .slice AM M.length cc] rfl rfl (.inr ⟨_, rfl, new3 _ _ _ _ _⟩) (oneCut _ _ _ _ _) hb1 hb2' (by simp; omega) ?_; intro v' w6 hown6 hgrow hv6)
            obtain ⟨A6, c6, rfl⟩ := own_val hown6
            have hbig : Below w.heap.size w w6 := (HBR1.out.alloc hzz _).grown hgrow (by simp; omega) (fun q hq => (hown1.lt q hq).1)
            have HO6 := Lib.hid hown6
            clear hown6 hgrow hv6 hown1 kl k0 k1 k2
            go_wp2_with fail
            go_roundw
            case rel => exact ⟨k + 1, A6, c6, by omega, by go_num, by rw [HSU.out, hf]; simp, by rw [HSU.out, hf]; simpa [cutsV_app, cutsV, cutV] using HO6.out, hbig⟩
            case measure => simp [intOf]; omega
    · obtain rfl : k = m := by omega
      have hT : keptU W H L Cs k = kept W H L Cs := by unfold keptU; rw [List.take_of_length_le (by rw [HMM.out]; omega)]
      rw [hT] at hown ⊢
      obtain ⟨P, hP⟩ : ∃ P, kept W H L Cs = P := ⟨_, rfl⟩
      have HP := Lib.hid hP
      have hsub : ∀ x ∈ kept W H L Cs, x ∈ Cs := fun x hx => (List.mem_filter.1 hx).1
      have hCr := hCL.keep hbr
      have HC := Lib.hid (show CL n0 W H (kept W H L Cs) (.slice A' (kept W H L Cs).length c') wr from ⟨own_base hown hn0, fun x hx => hCr.sq x (hsub x hx)⟩)
      rw [hP]
      clear hown hT hCL hCr hsub hL hP
      go_wp2_with fail
      go_ret
      exact ⟨A', c', by rw [HP.out]; rfl, HC.out, hbr⟩
end Go.Proofs.YtchabjmdjpfkfaaGreat
namespace Go.Proofs.YtchabjmdjpfkfaaGreat
open Go.RowKit Go.Shelf

theorem ofSize_any (W H : Nat) (hok : okP W H = true) (A : Option Addr) (n c : Nat) (w : World) :
    Calls Tryz.prog 20 #[.agg #[.int .i64 W, .int .i64 H, .slice A n c]] w (RetCL w W H (allF W H)) := by
  have hh := okL_nat.1 (okP_okL hok)
  have B0 : Below w.heap.size w (w.alloc (.cells #[.int .i64 W, .int .i64 H, .slice A n c] 31)) := (Below.refl _ _).alloc (Nat.le_refl _) _
  have C := Lib.hid (ctAll_any W H hh.1.1 hh.1.2 hh.2 (w.alloc (.cells #[.int .i64 W, .int .i64 H, .slice A n c] 31)))
  clear hok hh
  go_enter Tryz.func20, Tryz.ntmps20
  go_wp2_with fail
  (with_reducible refine C.out.mono ?_)
  rintro e w2 ⟨A1, c1, Cs, rfl, hm, hcl, hb⟩
  go_wp2_with fail
  go_ret
  exact ⟨A1, c1, Cs, rfl, hm, ⟨own_base hcl.own B0.size, fun x hx => own_base (hcl.sq x hx) B0.size⟩, B0.trans (hb.mono B0.size)⟩
/-- What Solutions of the model returns. -/
def RetSM (w : World) (W H : Int) (L : List Sq) (e : Ending) (w' : World) : Prop :=
  ∃ A c Cs, e = .returned (.tuple #[.slice A Cs.length c, .bool (dc (GoodP W H L))]) ∧ Cs.map (·.1) = solV W H L ∧ CL w.heap.size W H Cs (.slice A Cs.length c) w' ∧ Below w.heap.size w w'
end Go.Proofs.YtchabjmdjpfkfaaGreat
