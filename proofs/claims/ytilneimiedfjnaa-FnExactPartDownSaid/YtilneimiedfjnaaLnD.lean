/- LinesDown of the program. -/
import Derived.Test.YtilneimiedfjnaaJoinG
import Derived.Test.YtilneimiedfjnaaApp
import Derived.Shelf.SlicesQ.IndexFunc
import Derived.Ground.SlgfProg
namespace Go.Proofs
open Go.Shelf
shelf_lay_g SlLaysH0.n8 Slgf 8 at Try 72 as Ytilneimiedfjnaa.contSq
end Go.Proofs
set_option linter.all false
namespace Go.Proofs.Ytilneimiedfjnaa
open Go.RowKit Go.Shelf Go.Lib

def encS (s : Sq) : List Value := [.int .i64 s.x, .int .i64 s.y, .int .i64 s.d]
/-- The square goes through the place. -/
def thrB (x : Int) (s : Sq) : Bool := decide (s.x < x) && decide (x < IntKind.i64.wrap (s.x + s.d))
theorem thr_pred (x : Int) (B : Nat) (w : World) (hB : B < w.heap.size) (hcell : w.cell? ⟨B, 0, none⟩ = some (.int .i64 x)) :
    PredBelow Try.prog 73 #[.pointer (some ⟨B, 0, none⟩)] (fun s => .agg (encS s).toArray) (thrB x) w := fun W s hb => by
  have hc : W.cell? ⟨B, 0, none⟩ = some (.int .i64 x) := (hb.cell (p := ⟨B, 0, none⟩) hB).trans hcell
  have hBW : B < W.heap.size := Nat.lt_of_lt_of_le hB hb.size
  have hne : B ≠ W.heap.size := by omega
  have e : IntKind.i64.wrap (s.x + s.d) = wrap64 (s.x + s.d) := IntWalk.i64_left _
  show Calls Try.prog 73 #[.agg #[.int .i64 s.x, .int .i64 s.y, .int .i64 s.d], .pointer (some ⟨B, 0, none⟩)] W _
  unfold thrB
  by_cases h1 : s.x < x
  · have d1 : decide (s.x < x) = true := decide_eq_true h1
    rw [d1, Bool.true_and]
    go_enter Try.func73, Try.ntmps73
    go_wp2
    all_goals (go_ret; exact ⟨by simp_all, hb.alloc hb.size _⟩)
  · have d1 : decide (s.x < x) = false := decide_eq_false h1
    rw [d1, Bool.false_and]
    go_enter Try.func73, Try.ntmps73
    go_wp2
    all_goals (go_ret; exact ⟨by simp_all, hb.alloc hb.size _⟩)
theorem thr_free {W H x : Int} {L : List Sq} (hF : Fill W H L) : L.any (thrB x) = !dc (J.FreeX L x) := by
  have key : L.any (thrB x) = true ↔ ¬ J.FreeX L x := by
    rw [List.any_eq_true]
    constructor
    · rintro ⟨s, hs, h⟩ hf
      have hw := hF.within s hs
      have hW := hF.w
      unfold Within at hw
      have e : IntKind.i64.wrap (s.x + s.d) = s.x + s.d := IntWalk.i64_in _ (by omega)
      simp only [thrB, e, Bool.and_eq_true, decide_eq_true_eq] at h
      have := hf s hs
      omega
    · intro h
      unfold J.FreeX at h
      rw [Classical.not_forall] at h
      obtain ⟨s, h⟩ := h
      rw [Classical.not_imp] at h
      obtain ⟨hs, h⟩ := h
      have hw := hF.within s hs
      have hW := hF.w
      unfold Within at hw
      have e : IntKind.i64.wrap (s.x + s.d) = s.x + s.d := IntWalk.i64_in _ (by omega)
      refine ⟨s, hs, ?_⟩
      simp only [thrB, e, Bool.and_eq_true, decide_eq_true_eq]
      omega
  by_cases hf : J.FreeX L x
  · rw [dc_true hf, Bool.not_true, ← Bool.not_eq_true]
    exact fun k => key.1 k hf
  · rw [dc_false hf, Bool.not_false]
    exact key.2 hf
theorem contains_any {W H : Int} (A : Option Addr) (n c : Nat) (L : List Sq) (x : Int) (B : Nat) (w : World) (hl : L.length = n) (hG : Good W H L) (hL : SqsAt w w.heap.size A L) (hB : B < w.heap.size) (hcell : w.cell? ⟨B, 0, none⟩ = some (.int .i64 x)) :
    Calls Try.prog 72 #[.slice A n c, .func (.func 73) #[] #[.pointer (some ⟨B, 0, none⟩)]] w fun e w' => e = .returned (.bool (!dc (J.FreeX L x))) ∧ Below w.heap.size w w' := by
  subst hl
  have eg : ∀ args w, (callFunc 73 args).run Try.prog w = .ok (.enter 73 args) w := enters_of Try.func73 (by kernel_rfl) rfl
  have hn := hG.2.2.1
  obtain ⟨s0, hs0⟩ : ∃ s, L[0]? = some s := ⟨_, List.getElem?_eq_getElem (by omega)⟩
  obtain ⟨b, off, rfl, hb, _⟩ := hL 0 s0 hs0
  have hcon := AnyQ.slices_ContainsFunc contSq 3 (fun _ => by kernel_rfl) (fun _ => by kernel_rfl) encS (fun _ => rfl) (thrB x) 73 #[.pointer (some ⟨B, 0, none⟩)] eg b off L.length c L w
    (thr_pred x B w hB hcell) (Nat.le_refl _) (by omega) hb (fun j hj i v hi => by
      obtain ⟨b', off', he, _, c0, c1, c2⟩ := hL j L[j]! (by simp [hj])
      cases he
      generalize L[j]! = y at hi c0 c1 c2
      match i, hi with
      | 0, hi => simp [encS] at hi; rw [← hi]; exact c0
      | 1, hi => simp [encS] at hi; rw [← hi]; exact c1
      | 2, hi => simp [encS] at hi; rw [← hi]; exact c2
      | i + 3, hi => simp [encS] at hi)
  rw [List.take_of_length_le (Nat.le_refl _), thr_free (good_fill hG)] at hcon
  exact hcon

theorem new1d (w : World) (a : Value) (t : TypeId) : ∀ j u, [a][j]? = some u → (w.alloc (.cells #[a] t)).cell? ((⟨w.heap.size, 0, none⟩ : Addr).add j) = some u := by
  intro j u hj
  match j, hj with
  | 0, hj => simp at hj; subst hj; simp [Addr.add]
theorem one1d (r : Int) : ∀ u ∈ [Value.int .i64 r], u.oneCell' = true := by
  intro u hu; simp at hu; subst hu; rfl
/-- The memory of the search for lines. -/
structure LM (B : Nat) (W1 wr : World) (v : Value) (g : Nat) (x : Int) (R : List Int) : Prop where
  bel : Below B W1 wr
  g0 : B ≤ g
  gl : g < wr.heap.size
  cx : wr.cell? ⟨g, 0, none⟩ = some (.int .i64 x)
  fx : wr.frozen? ⟨g, 0, none⟩ = false
  own : wr.ownsRow B 3 1 v R.length (ints R)
  ne : ∀ k, v.ownBlock = some k → k ≠ g
theorem LM.keep {B : Nat} {W1 wr w' : World} {v : Value} {g : Nat} {x : Int} {R : List Int} (h : LM B W1 wr v g x R) (hb : Below wr.heap.size wr w') : LM B W1 w' v g x R :=
  ⟨h.bel.trans (hb.mono (Nat.le_trans h.g0 (Nat.le_of_lt h.gl))), h.g0, Nat.lt_of_lt_of_le h.gl hb.size, (hb.cell (p := ⟨g, 0, none⟩) h.gl).trans h.cx, (hb.frozen (p := ⟨g, 0, none⟩) h.gl).trans h.fx, own_keep h.own hb, h.ne⟩
theorem LM.push {B : Nat} {W1 wr wa w6 : World} {v v' : Value} {g : Nat} {x y : Int} {R : List Int} (h : LM B W1 wr v g x R) (hb : Below wr.heap.size wr wa) (hg : wa.grownBy w6 v.ownBlock) (ho : w6.ownsRow B 3 1 v' (R.length + 1) (ints R ++ [.int .i64 y])) (hv : v'.ownBlock = v.ownBlock ∨ v'.ownBlock = some wa.heap.size) : LM B W1 w6 v' g x (R ++ [y]) := by
  have h2 := h.keep hb
  have hne : ∀ k, v.ownBlock = some k → k ≠ g := h.ne
  refine ⟨h2.bel.grown hg (Nat.le_trans h2.g0 (Nat.le_of_lt h2.gl)) (fun k hk => (h2.own.lt k hk).1), h.g0, Nat.lt_of_lt_of_le h2.gl hg.size, hg.cell h2.cx (fun e => hne _ e.symm rfl), ?_, ?_, fun k hk => ?_⟩
  · exact (hg.frozen_far ⟨g, 0, none⟩ h2.gl (fun e => hne _ e.symm rfl)).trans h2.fx
  · rw [List.length_append, ints_app]; exact ho
  · rcases hv with e | e
    · exact hne k (e ▸ hk)
    · rw [e] at hk; cases hk
      have := h2.gl
      omega
theorem LM.fresh {B : Nat} {W1 wr : World} {v : Value} {g : Nat} {x : Int} {R : List Int} (h : LM B W1 wr v g x R) (y : Int) (t : TypeId) : LM B W1 (wr.alloc (.cells #[.int .i64 y] t)) v wr.heap.size y R := by
  have hb : Below wr.heap.size wr (wr.alloc (.cells #[.int .i64 y] t)) := (Below.refl _ _).alloc (Nat.le_refl _) _
  have h2 := h.keep hb
  refine ⟨h2.bel, Nat.le_trans h.g0 (Nat.le_of_lt h.gl), by simp, by simp, World.frozen?_alloc_at _ _ _ _ rfl, h2.own, fun k hk => ?_⟩
  have := (h.own.lt k hk).2
  omega

set_option maxRecDepth 100000 in
set_option maxHeartbeats 8000000 in
theorem implLines_any (W H : Int) (A : Option Addr) (n c : Nat) (L : List Sq) (w : World) (hl : L.length = n) (hc : n ≤ c) (hL : SqsAt w w.heap.size A L) (hwf : ∀ s ∈ L, wfS s) :
    Calls Try.prog 28 #[.agg #[.int .i64 W, .int .i64 H, .slice A n c]] w (RetInts w (ifGood W H L (J.lnD L W.toNat)) (dc (Good W H L))) := by
  subst hl
  obtain ⟨j0, hj, hz0, hz1, hz2⟩ := info_parts infoInt
  have Z0 : Box w.heap.size w (w.alloc (.cells #[.int .i64 W, .int .i64 H, .slice A L.length c] 29)) W H A c L := Box.start hL
  obtain ⟨W1, hW1⟩ : ∃ W1, W1 = w.alloc (.cells #[.int .i64 W, .int .i64 H, .slice A L.length c] 29) := ⟨_, rfl⟩
  rw [← hW1] at Z0
  obtain ⟨hB1, hz1', b0, b1, b2, hL1⟩ := id Z0
  by_cases hG : Good W H L
  · rw [ifGood_yes hG, dc_true hG]
    go_enter Try.func28, Try.ntmps28
    go_wp2_with fail
    rw [← hW1]
    refine (callB_yes (isCut_good W H A _ c L _ rfl hc (hL1.mono hB1.size) hwf) hG).mono ?_
    rintro e w2 ⟨rfl, hb2⟩
    have Z2 := Z0.next hb2
    clear b0 b1 b2 hL1 hB1 hz1' Z0 hb2 hW1
    obtain ⟨hB2, hz2', b0, b1, b2, hL2⟩ := id Z2
    have hW := hG.1
    obtain ⟨m, rfl⟩ : ∃ m : Nat, W = m := ⟨W.toNat, by omega⟩
    have em : ((m : Int)).toNat = m := by simp
    rw [em]
    go_wp2_with fail
    have M0 : LM (w.heap.size + 1) w2 (w2.alloc (.cells #[.int .i64 1] 3)) (.slice none 0 0) w2.heap.size 1 [] :=
      ⟨(Below.refl _ _).alloc (by omega) _, by omega, by simp, by simp, World.frozen?_alloc_at _ _ _ _ rfl, World.ownsRow_nil _ _ _ _, fun k hk => by cases hk⟩
    clear b0 b1 b2 hL2
    go_loopg [4, 5] m (fun gas v pv wr => ∃ k g : Nat, 1 ≤ k ∧ k ≤ m ∧ m - k ≤ gas ∧ pv = .pointer (some ⟨g, 0, none⟩) ∧ LM (w.heap.size + 1) w2 wr v g k (J.lnD L k))
    case atStart => exact ⟨1, w2.heap.size, Nat.le_refl _, by omega, by omega, rfl, by rw [J.lnD_one]; exact M0⟩
    case round =>
      obtain ⟨k, g, hk1, hk, hgas, rfl, M⟩ := hrel
      have Zr := Z2.keep M.bel (Nat.lt_succ_self _) M.bel.size
      obtain ⟨hBr, hzr, b0, b1, b2, hLr⟩ := id Zr
      have cx := M.cx
      have gl := M.gl
      have g0 := M.g0
      by_cases hlt : k < m
      · have hlI : (k : Int) < (m : Int) := by omega
        have hcon := contains_any A L.length c L (k : Int) g wr rfl hG (hLr.mono (by omega)) gl cx
        have hlen := J.lnD_len L k
        obtain ⟨R, hR⟩ : ∃ R, J.lnD L k = R := ⟨_, rfl⟩
        rw [hR] at M hlen
        have hbl : R.length + 1 ≤ maxLen := by unfold maxLen; omega
        have hby : (R.length + 1) * 8 ≤ 140737488355328 := by omega
        have HM := Lib.hid M
        by_cases hf : J.FreeX L k
        · rw [dc_true hf, Bool.not_true] at hcon
          have HE := Lib.hid ((J.lnD_yes hk1 hf).trans (by rw [hR]) : J.lnD L (k + 1) = R ++ [(k : Int)])
          clear hf hR Z2 hL Zr hLr hB2 hz2' hwf hG M
          go_wp2_with fail
          refine hcon.mono ?_
          rintro e w3 ⟨rfl, hb3⟩
          have M3 := HM.out.keep hb3
          have cx3 := M3.cx
          have gl3 := M3.gl
          obtain ⟨A3, c3, rfl⟩ := own_val M3.own
          clear cx b0 b1 b2
          go_wp2_with (at_builtin; refine app_list rfl _ _ _ rfl (w.heap.size + 1) 3 j0 (.int .i64 0) 1 8 Try.underlying25 hj hz0 hz1 hz2 rfl (by decide) (.slice A3 R.length c3) R.length _ rfl (M3.own.alloc _) (some ⟨w3.heap.size, 0, none⟩) 1 1 [.int .i64 k] rfl rfl (.inr ⟨_, rfl, new1d _ _ _⟩) (one1d _) hbl hby (by simp; omega) ?_; intro v' w6 hown6 hgrow hv6; have M6 := M3.push ((Below.refl _ _).alloc (Nat.le_refl _) _) hgrow hown6 hv6; have cx6 := M6.cx; have gl6 := M6.gl)
          have M7 : LM (w.heap.size + 1) w2 (w6.alloc (.cells #[.int .i64 ((k : Int) + 1)] 3)) v' w6.heap.size ((k + 1 : Nat) : Int) (J.lnD L (k + 1)) := by rw [HE.out]; exact M6.fresh ((k : Int) + 1) 3
          go_roundg (m - (k + 1))
          case measure => omega
          case rel => exact ⟨k + 1, w6.heap.size, by omega, by omega, by omega, rfl, M7⟩
        · rw [dc_false hf, Bool.not_false] at hcon
          have HE := Lib.hid ((J.lnD_no hf).trans hR : J.lnD L (k + 1) = R)
          clear hf hR Z2 hL Zr hLr hB2 hz2' hwf hG M
          go_wp2_with fail
          refine hcon.mono ?_
          rintro e w3 ⟨rfl, hb3⟩
          have M3 := HM.out.keep hb3
          have cx3 := M3.cx
          have gl3 := M3.gl
          clear cx b0 b1 b2
          go_wp2_with fail
          have M7 := M3.fresh ((k : Int) + 1) 3
          rw [← HE.out] at M7
          go_roundg (m - (k + 1))
          case measure => omega
          case rel => exact ⟨k + 1, w3.heap.size, by omega, by omega, by omega, rfl, M7⟩
      · obtain rfl : k = m := by omega
        have hBF := hB2.trans (M.bel.mono (by omega))
        obtain ⟨A3, c3, rfl⟩ := own_val M.own
        have hown := own_base (base' := w.heap.size) M.own (by omega)
        clear hL Z2 Zr hLr M hG
        go_wp2_with fail
        go_ret2
        exact RetInts.mk rfl hown hBF
  · rw [ifGood_no hG, dc_false hG]
    go_enter Try.func28, Try.ntmps28
    go_wp2_with fail
    rw [← hW1]
    refine (callB_no (isCut_good W H A _ c L _ rfl hc (hL1.mono hB1.size) hwf) hG).mono ?_
    rintro e w2 ⟨rfl, hb2⟩
    go_wp2_with fail
    go_ret2
    exact RetInts.none_ (hB1.trans (hb2.mono hB1.size))
end Go.Proofs.Ytilneimiedfjnaa
