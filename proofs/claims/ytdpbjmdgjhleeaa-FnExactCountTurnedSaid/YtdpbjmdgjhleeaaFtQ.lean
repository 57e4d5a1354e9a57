/- FtC, FtS: texts in one. -/
import Derived.Test.YtdpbjmdgjhleeaaFirstC
import Derived.Test.YtdpbjmdgjhleeaaSortF
import Derived.Test.YtdpbjmdgjhleeaaCoM
set_option linter.all false
namespace Go.Proofs.Ytdpbjmdgjhleeaa
open Go.RowKit Go.Sort

theorem Gr.drewN {w w' : World} (h : Gr w w') (n : Nat) : Gr w (w'.drewN n) := by
  obtain ⟨q, os, rfl⟩ := h
  refine ⟨q + n, os, ?_⟩
  show World.drewN (grow (w.drewN q) os) n = _
  unfold grow World.drewN
  simp [Nat.add_assoc]
theorem Gr.trans {a b c : World} (h : Gr a b) (k : Gr b c) : Gr a c := by
  obtain ⟨q, os, rfl⟩ := h
  obtain ⟨r, os', rfl⟩ := k
  refine ⟨q + r, os ++ os', ?_⟩
  rw [← grow_grow]
  unfold grow World.drewN
  simp [Nat.add_assoc]
theorem Gr.below {w w' : World} (h : Gr w w') : Below w.heap.size w w' := by
  obtain ⟨q, os, rfl⟩ := h
  exact ⟨rfl, rfl, rfl, by simp, fun k hk => heap_grow_old _ _ (by simpa using hk)⟩
/-- How lists of squares compare. -/
def cmpQ : List Sq → List Sq → Int
  | [], [] => 0
  | [], _ :: _ => -1
  | _ :: _, [] => 1
  | s :: a, q :: b => if cmpS s q = 0 then cmpQ a b else cmpS s q
theorem cmpQ_drop : ∀ (k : Nat) (a b : List Sq), a.take k = b.take k → k ≤ a.length → k ≤ b.length → cmpQ a b = cmpQ (a.drop k) (b.drop k)
  | 0, a, b, _, _, _ => by simp
  | k + 1, [], b, _, h, _ => by simp at h
  | k + 1, _ :: _, [], _, _, h => by simp at h
  | k + 1, s :: a, q :: b, h, h1, h2 => by
    simp only [List.take_succ_cons, List.cons.injEq] at h
    obtain ⟨rfl, h⟩ := h
    simp only [List.length_cons] at h1 h2
    rw [cmpQ, if_pos (cmpS_self s), List.drop_succ_cons, List.drop_succ_cons]
    exact cmpQ_drop k a b h (by omega) (by omega)
theorem cmpQ_at {a b : List Sq} {k : Nat} {s q : Sq} (hk : a.take k = b.take k) (hs : a[k]? = some s) (hq : b[k]? = some q) (hne : cmpS s q ≠ 0) : cmpQ a b = cmpS s q := by
  obtain ⟨h1, e1⟩ := List.getElem?_eq_some_iff.1 hs
  obtain ⟨h2, e2⟩ := List.getElem?_eq_some_iff.1 hq
  rw [cmpQ_drop k a b hk (by omega) (by omega), List.drop_eq_getElem_cons h1, List.drop_eq_getElem_cons h2, e1, e2, cmpQ, if_neg hne]
theorem cmpQ_one {a b : List Sq} (hk : a.take b.length = b.take b.length) (h : b.length < a.length) : cmpQ a b = 1 := by
  rw [cmpQ_drop b.length a b hk (by omega) (Nat.le_refl _), List.drop_length, List.drop_eq_getElem_cons h]
  rfl
theorem cmpQ_end {a b : List Sq} (hk : a.take a.length = b.take a.length) (hb : a.length ≤ b.length) : cmpQ a b = if a.length < b.length then -1 else 0 := by
  rw [cmpQ_drop a.length a b hk (Nat.le_refl _) hb, List.drop_length]
  by_cases h : a.length < b.length
  · rw [if_pos h, List.drop_eq_getElem_cons h]; rfl
  · rw [if_neg h, List.drop_eq_nil_of_le (by omega)]; rfl
theorem cmpQ_lt : ∀ a b : List Sq, cmpQ a b < 0 ↔ F.ltQ a b
  | [], [] => by simp [cmpQ, F.ltQ]
  | [], _ :: _ => by simp [cmpQ, F.ltQ]
  | _ :: _, [] => by simp [cmpQ, F.ltQ]
  | s :: a, q :: b => by
    rw [cmpQ]
    by_cases h : cmpS s q = 0
    · rw [if_pos h, cmpQ_lt a b]
      obtain rfl := cmpS_eq h
      have := F.ltQ_drop (a := s :: a) (b := s :: b) (k := 1) (by simp) (by simp) (by simp)
      simpa using this.symm
    · rw [if_neg h, cmpS_lt]
      have hne : s ≠ q := fun e => h (by rw [e, cmpS_self])
      exact (F.ltQ_at (a := s :: a) (b := q :: b) (k := 0) (by simp) (by simp) (by simp) hne).symm
theorem compareSquares_gr (x y d x' y' d' : Int) (w : World) :
    Calls Try.prog 107 #[.agg #[.int .i64 x, .int .i64 y, .int .i64 d], .agg #[.int .i64 x', .int .i64 y', .int .i64 d']] w fun e w' =>
      e = .returned (.int .i64 (cmpS ⟨x, y, d⟩ ⟨x', y', d'⟩)) ∧ Gr w w' := by
  go_enter Try.func107, Try.ntmps107
  go_wp2_with fail
  go_region_held3 (fun w' => w'.cell? ⟨w.heap.size, 0, none⟩ = some (.int .i64 x) ∧ w'.cell? ⟨w.heap.size, 1, none⟩ = some (.int .i64 y) ∧ w'.cell? ⟨w.heap.size, 2, none⟩ = some (.int .i64 d) ∧ w'.cell? ⟨w.heap.size + 1, 0, none⟩ = some (.int .i64 x') ∧ w'.cell? ⟨w.heap.size + 1, 1, none⟩ = some (.int .i64 y') ∧ w'.cell? ⟨w.heap.size + 1, 2, none⟩ = some (.int .i64 d'))
    (simp [go_sem, World.cell?_alloc_past])
    (first
      | (go_at_call 125; refine (compare_any _ _ _).mono ?_; rintro e w' ⟨rfl, rfl⟩)
      | (go_at_call 129; refine (or3_any (cmpI x x') (cmpI y y') (cmpI d d') _ _ (by simp [go_sem]) (by simp [go_sem]) (by simp [go_sem])).mono ?_; rintro e w' ⟨rfl, rfl⟩))
  go_wp2_with fail
  go_ret
  exact ⟨rfl, by repeat (first | exact Gr.refl _ | refine Gr.alloc ?_ _ | refine Gr.drew ?_ | refine Gr.drewN ?_ _)⟩

set_option maxRecDepth 100000 in
set_option maxHeartbeats 2000000 in
theorem compareFunc_gr (A A' : Option Addr) (n n' c c' : Nat) (a b : List Sq) (w : World) (hl : a.length = n) (hl' : b.length = n') (hn : n ≤ 1048576) (hn' : n' ≤ 1048576) (hA : SqsAt w w.heap.size A a) (hA' : SqsAt w w.heap.size A' b) :
    Calls Try.prog 106 #[.slice A n c, .slice A' n' c', .func (.func 107) #[] #[]] w fun e w' => e = .returned (.int .i64 (cmpQ a b)) ∧ Gr w w' := by
  subst hl
  subst hl'
  go_enter Try.func106, Try.ntmps106
  go_wp2_with fail
  go_loopw [13] (fun i wr => ∃ k : Nat, k ≤ a.length ∧ k ≤ b.length ∧ i = .int .i64 k ∧ a.take k = b.take k ∧ Gr w wr) (fun i _ => a.length - (intOf i).toNat)
  case atStart => exact ⟨0, Nat.zero_le _, Nat.zero_le _, rfl, rfl, Gr.refl _⟩
  case round =>
    obtain ⟨k, hka, hkb, rfl, hp, hbr⟩ := hrel
    have hB := hbr.below
    have hzr := hB.size
    by_cases h1 : k < a.length
    · obtain ⟨s, hs⟩ : ∃ s, a[k]? = some s := ⟨_, List.getElem?_eq_getElem h1⟩
      obtain ⟨b1, o1, rfl, hb1, c0, c1, c2⟩ := (hA.below hB) k s hs
      have k0 : (0 : Int) ≤ (k : Int) := by omega
      have k1 : (k : Int) < (a.length : Int) := by omega
      have hb1' : b1 < wr.heap.size := by omega
      by_cases h2 : k < b.length
      · obtain ⟨q, hq⟩ : ∃ q, b[k]? = some q := ⟨_, List.getElem?_eq_getElem h2⟩
        obtain ⟨b2, o2, rfl, hb2, d0, d1, d2⟩ := (hA'.below hB) k q hq
        have k2 : (k : Int) < (b.length : Int) := by omega
        have hb2' : b2 < wr.heap.size := by omega
        have hlt := fun hne => cmpQ_at hp hs hq hne
        have HX := Lib.hid hs
        have HY := Lib.hid hq
        have HP := Lib.hid hp
        clear hs hq hp hA hA'
        have CS := compareSquares_gr s.x s.y s.d q.x q.y q.d
        have e1 : (⟨s.x, s.y, s.d⟩ : Sq) = s := rfl
        have e2 : (⟨q.x, q.y, q.d⟩ : Sq) = q := rfl
        rw [e1, e2] at CS
        clear e1 e2
        by_cases hz : cmpS s q = 0
        · have e3 := cmpS_eq hz
          rw [hz] at CS
          have HE := Lib.hid e3
          clear e3 hz hlt
          go_wp2_with fail
          refine (CS _).mono ?_
          rintro e w' ⟨rfl, hb⟩
          have hbE := ((hbr.alloc (.cells #[.int .i64 s.x, .int .i64 s.y, .int .i64 s.d] 85)).alloc (.cells #[.int .i64 q.x, .int .i64 q.y, .int .i64 q.d] 85)).trans hb
          clear CS hb
          go_wp2_with fail
          go_roundw
          case rel => exact ⟨k + 1, by omega, by omega, by go_num, takeS_step HP.out HX.out (by rw [HE.out]; exact HY.out), hbE⟩
          case measure => simp [intOf]; omega
        · obtain ⟨v, hv⟩ : ∃ v, cmpS s q = v := ⟨_, rfl⟩
          rw [hv] at CS hz hlt
          have HN := Lib.hid hz
          have HLT := Lib.hid hlt
          clear hlt
          have hq0 : (v != 0) = true := by simpa using hz
          clear hv hz
          go_wp2_with fail
          refine (CS _).mono ?_
          rintro e w' ⟨rfl, hb⟩
          have hbE := ((hbr.alloc (.cells #[.int .i64 s.x, .int .i64 s.y, .int .i64 s.d] 85)).alloc (.cells #[.int .i64 q.x, .int .i64 q.y, .int .i64 q.d] 85)).trans hb
          clear CS hb
          go_wp2_with fail
          go_ret
          exact ⟨by rw [HLT.out HN.out]; rfl, hbE⟩
      · obtain rfl : k = b.length := by omega
        have hno : cmpQ a b = 1 := cmpQ_one hp h1
        have HN := Lib.hid hno
        clear hs hp hA hA' hno
        go_wp2_with fail
        go_ret
        exact ⟨by rw [HN.out]; rfl, hbr.alloc _⟩
    · obtain rfl : k = a.length := by omega
      have hlt := cmpQ_end hp hkb
      have HLT := Lib.hid hlt
      clear hp hlt hA hA'
      by_cases h2 : a.length < b.length
      · go_wp2_with fail
        go_ret
        exact ⟨by rw [HLT.out, if_pos h2]; rfl, hbr⟩
      · go_wp2_with fail
        go_ret
        exact ⟨by rw [HLT.out, if_neg h2]; rfl, hbr⟩

set_option maxRecDepth 100000 in
theorem compareCuts_gr (W H W' H' : Int) (A A' : Option Addr) (n n' c c' : Nat) (a b : List Sq) (w : World) (hl : a.length = n) (hl' : b.length = n') (hn : n ≤ 1048576) (hn' : n' ≤ 1048576) (hA : SqsAt w w.heap.size A a) (hA' : SqsAt w w.heap.size A' b) :
    Calls Try.prog 58 #[.agg #[.int .i64 W, .int .i64 H, .slice A n c], .agg #[.int .i64 W', .int .i64 H', .slice A' n' c']] w fun e w' => e = .returned (.int .i64 (cmpQ a b)) ∧ Gr w w' := by
  have hG : Gr w ((w.alloc (.cells #[.int .i64 W, .int .i64 H, .slice A n c] 28)).alloc (.cells #[.int .i64 W', .int .i64 H', .slice A' n' c'] 28)) := ((Gr.refl _).alloc _).alloc _
  have hB := hG.below
  go_enter Try.func58, Try.ntmps58
  go_wp2_with fail
  refine (compareFunc_gr A A' n n' c c' a b _ hl hl' hn hn' ((hA.below hB).mono hB.size) ((hA'.below hB).mono hB.size)).mono ?_
  rintro e w2 ⟨rfl, hb2⟩
  have hBE := hG.trans hb2
  clear hb2 hB hG
  go_wp2_with fail
  go_ret
  exact ⟨rfl, hBE⟩

end Go.Proofs.Ytdpbjmdgjhleeaa
namespace Go.Proofs.Ytdpbjmdgjhleeaa
open Go.RowKit Go.Sort Go.Shelf Go.Lib

theorem fm_get {α : Type} (enc : α → List Value) (h : ∀ x, (enc x).length = 3) : ∀ (L : List α) (k r : Nat), r < 3 → (L.flatMap enc)[k * 3 + r]? = L[k]?.bind fun x => (enc x)[r]?
  | [], k, r, _ => by simp
  | x :: L, 0, r, hr => by rw [List.flatMap_cons, List.getElem?_append_left (by rw [h]; omega)]; simp
  | x :: L, k + 1, r, hr => by
    rw [List.flatMap_cons, List.getElem?_append_right (by rw [h]; omega), h, show (k + 1) * 3 + r - 3 = k * 3 + r by omega, fm_get enc h L k r hr]; simp
theorem fm_len {α : Type} (enc : α → List Value) (h : ∀ x, (enc x).length = 3) (L : List α) : (L.flatMap enc).length = L.length * 3 := by
  induction L with
  | nil => rfl
  | cons x L ih => rw [List.flatMap_cons, List.length_append, ih, h, List.length_cons]; omega
theorem flatK_of {α : Type} [Inhabited α] (enc : α → List Value) (h : ∀ x, (enc x).length = 3) (L : List α) : flatK enc 3 L.toArray = (L.flatMap enc).toArray := by
  apply Array.ext
  · simp [fm_len enc h]
  · intro t h1 h2
    have ht : t < L.length * 3 := by simpa using h1
    have hi : t / 3 < L.length := by omega
    have e1 : (flatK enc 3 L.toArray)[t] = (flatK enc 3 L.toArray)[t]! := (getElem!_pos _ t h1).symm
    rw [e1, get_flatK enc 3 L.toArray t (by simpa using ht)]
    have e2 : L.toArray[t / 3]! = L[t / 3] := by simp [hi]
    rw [e2]
    have h3 := fm_get enc h L (t / 3) (t % 3) (by omega)
    rw [show t / 3 * 3 + t % 3 = t by omega, List.getElem?_eq_getElem hi] at h3
    have hr : t % 3 < (enc L[t / 3]).length := by rw [h]; omega
    simp only [Option.bind_some] at h3
    rw [List.getElem?_eq_getElem hr] at h3
    have h4 : (L.flatMap enc).toArray[t]? = some (enc L[t / 3])[t % 3] := by simpa using h3
    rw [(Array.getElem?_eq_some_iff.1 h4).2]
    exact getElem!_pos (enc L[t / 3]) (t % 3) hr
theorem ltOf_Q {α : Type} (f : α → List Sq) (a b : α) : ltOf (fun x y => cmpQ (f x) (f y)) a b = true ↔ F.ltQ (f a) (f b) := by
  unfold ltOf
  rw [decide_eq_true_iff, cmpQ_lt]
theorem swo_Q {α : Type} (f : α → List Sq) : SWO (ltOf fun x y : α => cmpQ (f x) (f y)) where
  irrefl x := by
    cases e : ltOf (fun x y : α => cmpQ (f x) (f y)) x x with
    | false => rfl
    | true => exact absurd ((ltOf_Q f x x).1 e) (F.ltQ_irrefl _)
  trans x y z h1 h2 := (ltOf_Q f x z).2 (F.ltQ_trans _ _ _ ((ltOf_Q f x y).1 h1) ((ltOf_Q f y z).1 h2))
  ntrans x y z h1 h2 := by
    have k1 : ¬ F.ltQ (f x) (f y) := fun h => by rw [(ltOf_Q f x y).2 h] at h1; cases h1
    have k2 : ¬ F.ltQ (f y) (f z) := fun h => by rw [(ltOf_Q f y z).2 h] at h2; cases h2
    cases e : ltOf (fun x y : α => cmpQ (f x) (f y)) x z with
    | false => rfl
    | true =>
      have k3 := (ltOf_Q f x z).1 e
      by_cases h : F.ltQ (f y) (f x)
      · exact absurd (F.ltQ_trans _ _ _ h k3) k2
      · rw [F.ltQ_tri _ _ k1 h] at k3
        exact absurd k3 k2
theorem isAggCut : ∀ w, (isAgg 28).run Try.prog w = .ok true w := fun _ => by kernel_rfl
theorem sizeOfCut : ∀ w, (Go.sizeOf 28).run Try.prog w = .ok 3 w := fun _ => by kernel_rfl
theorem cutV_len (W H : Int) (x : CV) : (cutV W H x).length = 3 := rfl
/-- The cuts of a list whose row alone is written keep their squares. -/
theorem CL.perm {base : Nat} {W H : Int} {R T : List CV} {v v' : Value} {w w' : World} (h : CL base W H R v w) (hT : ∀ x ∈ T, x ∈ R) (ho : w'.ownsRow base 28 3 v' T.length (cutsV W H T)) (hg : w.grownBy w' v.ownBlock) : CL base W H T v' w' := by
  refine ⟨ho, fun x hx => ?_⟩
  have hs := h.sq x (hT x hx)
  exact own_blk hs fun k hk => hg.block k (hs.lt k hk).2 (fun e => rows_ne hs h.own (by decide) k hk e.symm)
theorem sortC_any (W H : Int) (A : Option Addr) (n c base : Nat) (R : List CV) (w : World) (hl : R.length = n) (hn : n ≤ 1048576) (hm : ∀ x ∈ R, x.1.length ≤ 1048576) (h : CL base W H R (.slice A n c) w) :
    Calls Try.prog 117 #[.slice A n c, .func (.func 58) #[] #[]] w fun e w' =>
      e = .returned (.tuple #[]) ∧ ∃ T : List CV, T.Perm R ∧ T.Pairwise (fun a b => ¬ F.ltQ b.1 a.1) ∧ CL base W H T (.slice A n c) w' ∧ w.grownBy w' (Value.slice A n c).ownBlock := by
  subst hl
  rcases h.own.2 with ⟨hv, h0⟩ | ⟨g, cap, cur, hv, hbase, hh, h1, h2, h3, h4⟩
  · simp only [Value.slice.injEq] at hv
    obtain ⟨rfl, _, rfl⟩ := hv
    have hL : R = [] := List.eq_nil_of_length_eq_zero h0
    subst hL
    refine (show Calls Try.prog 117 _ w _ from AnyF.slices_SortFunc_none Try.sortCut none 0 _ w).mono ?_
    rintro e w' ⟨rfl, rfl⟩
    exact ⟨rfl, [], List.Perm.refl _, List.Pairwise.nil, h, grown_refl _ _⟩
  · cases hv
    rcases Nat.eq_zero_or_pos R.length with hz | hpos
    · have hR : R = [] := List.eq_nil_of_length_eq_zero hz
      subst hR
      refine (show Calls Try.prog 117 _ w _ from AnyF.slices_SortFunc_none Try.sortCut _ _ _ w).mono ?_
      rintro e w' ⟨rfl, rfl⟩
      exact ⟨rfl, [], List.Perm.refl _, List.Pairwise.nil, h, grown_refl _ _⟩
    obtain ⟨r0, hr0⟩ : ∃ r, r ∈ R := List.exists_mem_of_length_pos hpos
    letI : Inhabited {r : CV // r ∈ R} := ⟨⟨r0, hr0⟩⟩
    obtain ⟨enc, henc⟩ : ∃ enc : {r : CV // r ∈ R} → List Value, enc = fun x => cutV W H x.1 := ⟨_, rfl⟩
    have hel : ∀ x, (enc x).length = 3 := fun x => by rw [henc]; rfl
    have hfm : ∀ T : List {r : CV // r ∈ R}, T.flatMap enc = cutsV W H (T.map Subtype.val) := fun T => by rw [henc]; unfold cutsV; rw [List.flatMap_map]
    have hatt : R.attach.flatMap enc = cutsV W H R := by rw [hfm, List.attach_map_subtype_val]
    have hal : R.attach.toArray.size = R.length := by simp
    have eg : ∀ args w, (callFunc 58 args).run Try.prog w = .ok (.enter 58 args) w := enters_of Try.func58 (by kernel_rfl) rfl
    have hcmp : CmpLays Try.prog 58 #[] enc 3 (fun x y => cmpQ x.1.1 y.1.1) g 0 R.attach.toArray.size w := by
      intro m os dk _ x y
      have hgr : w.grownBy (sortWorldK enc 3 w g 0 m dk os) (some g) := by unfold sortWorldK putRowK; exact grownBy_id _
      have hrow : ∀ z : {r : CV // r ∈ R}, SqsAt (sortWorldK enc 3 w g 0 m dk os) (sortWorldK enc 3 w g 0 m dk os).heap.size z.1.2.1 z.1.1 := fun z =>
        sqs_of_own (own_blk (h.sq z.1 z.2) fun k hk => hgr.block k ((h.sq z.1 z.2).lt k hk).2 (fun e => rows_ne (h.sq z.1 z.2) h.own (by decide) k hk e.symm))
      rw [henc] at hrow ⊢
      exact compareCuts_gr W H W H x.1.2.1 y.1.2.1 _ _ x.1.2.2 y.1.2.2 x.1.1 y.1.1 _ rfl rfl (hm _ x.2) (hm _ y.2) (hrow x) (hrow y)
    have hH : HoldsK enc 3 w g 0 R.attach.toArray := by
      unfold HoldsK
      rw [flatK_of enc hel, hatt]
      exact holds_id hh (by rw [cutsV_len]; exact h4)
    have h1c : ∀ x, ∀ v ∈ enc x, v.oneCell' = true := fun x v hv => by rw [henc] at hv; exact oneCut W H x.1.2.1 x.1.1.length x.1.2.2 v hv
    have CS := AnyQ.slices_SortFunc Try.sortCut 3 isAggCut sizeOfCut enc hel h1c (fun x y => cmpQ x.1.1 y.1.1) (swo_Q fun x : {r : CV // r ∈ R} => x.1.1) _ #[] g 0 c R.attach.toArray w eg hcmp hH (Array.getElem?_eq_some_iff.1 hh).1 (by simp; omega)
    rw [hal] at CS
    refine (show Calls Try.prog 117 _ w _ from CS).mono ?_
    rintro e w' ⟨rfl, d', nn, os, hp, hs, rfl⟩
    obtain ⟨hsz, _, hperm⟩ := hp
    have e1 : d'.extract 0 R.length = d' := by rw [← hal, ← hsz]; exact Array.extract_size
    have e2 : R.attach.toArray.extract 0 R.length = R.attach.toArray := by rw [← hal]; exact Array.extract_size
    rw [e1, e2] at hperm
    obtain ⟨T⟩ := d'
    have hT : T.Perm R.attach := hperm
    have hTl : T.length = R.length := by rw [hT.length_eq]; simp
    have hTR : (T.map Subtype.val).Perm R := by
      have := hT.map Subtype.val
      rwa [List.attach_map_subtype_val] at this
    have hgr : w.grownBy (sortWorldK enc 3 w g 0 nn T.toArray os) (some g) := by unfold sortWorldK putRowK; exact grownBy_id _
    refine ⟨rfl, T.map Subtype.val, hTR, ?_, h.perm (fun x hx => hTR.mem_iff.1 hx) ?_ hgr, hgr⟩
    · rw [List.pairwise_iff_getElem]
      intro i j hi hj hij
      rw [List.length_map] at hi hj
      have := hs i j (Nat.zero_le _) hij (by omega)
      have ei : (T.toArray)[i]! = T[i] := by simp [hi]
      have ej : (T.toArray)[j]! = T[j] := by simp [hj]
      rw [ei, ej] at this
      simp only [List.getElem_map]
      intro hlt
      rw [(ltOf_Q (fun x : {r : CV // r ∈ R} => x.1.1) _ _).2 hlt] at this
      cases this
    · unfold sortWorldK putRowK
      rw [flatK_of enc hel, hfm]
      have hcl : (cutsV W H (T.map Subtype.val)).length = R.length * 3 := by rw [cutsV_len, List.length_map, hTl]
      exact ⟨by rw [hcl, List.length_map, hTl], .inr ⟨g, c, _, by rw [List.length_map, hTl], hbase, heap_id _ hh, by rw [List.length_map, hTl]; exact h1, h2, by simp [putCells, h3], by rw [List.length_map, hTl, ← hcl]; exact take_putId cur _ (by omega)⟩⟩
end Go.Proofs.Ytdpbjmdgjhleeaa
