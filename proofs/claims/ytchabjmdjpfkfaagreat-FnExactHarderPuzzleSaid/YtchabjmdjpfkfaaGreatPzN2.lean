/- PzAc, PzAs, PzCo, PzDc, PzDd: texts in one. -/
import Derived.Test.YtchabjmdjpfkfaaGreatPzF
import Derived.Test.YtchabjmdjpfkfaaGreatLast
import Derived.Test.YtchabjmdjpfkfaaGreatApp
import Derived.ArgAppend
import Derived.Shelf.Spec.SlicesGrow
set_option linter.all false
namespace Go.Proofs.YtchabjmdjpfkfaaGreat
open Go.RowKit

section
variable {P : Program}
theorem grow_step {w : World} {ops : Array Oper} {o : Oper} {a : Act} {K : Act → World → Prop} {Q : Exit → Act → World → Prop} {E : Prop} (hgd : o.guard = none) (s x : Operand) (t : TypeId)
    (hop : o.op = Op.call { callee := Callee.builtin Builtin.append, args := #[s, x], argTypes := #[t, t] })
    (e : TypeId) (i : TypeInfo) (z : Value) (size bytes : Nat) (h1 : P.underlying t = some (.slice e)) (h2 : P.info? e = some i) (h3 : i.zero = some z) (h4 : i.size = size) (h5 : i.bytes = bytes) (h6 : z.cells.size = size) (h7 : 0 < size)
    (ao : Option Addr) (n cap : Nat) (olds : List Value) (hs : a.eval s = .slice ao n cap) (hnone : ao = none → n = 0 ∧ cap = 0) (hlo : olds.length = n * size) (holds : ∀ b, ao = some b → ∀ j u, olds[j]? = some u → w.cell? (b.add j) = some u)
    (ad : Addr) (m c : Nat) (news : List Value) (hx : a.eval x = .slice (some ad) m c) (hn : news.length = m * size) (hc : ∀ j u, news[j]? = some u → w.cell? (ad.add j) = some u) (h1c : ∀ u ∈ news, u.oneCell' = true)
    (hfull : cap < n + m) (b1 : n + m ≤ maxLen) (b2 : (n + m) * bytes ≤ 140737488355328)
    (hK : ∀ v' w', w'.ownsRow w.heap.size e size v' (n + m) (olds ++ news) → w.grownBy w' none → K (a.put o.dst v') w') :
    if Region.wanted o (yielded ops a.tmps) = true then Oper.wp P o a w K Q else E := by
  have hw : Region.wanted o (yielded ops a.tmps) = true := by simp [Region.wanted, hgd]
  rw [if_pos hw]
  cases ao with
  | some b =>
    obtain ⟨v', w', hrun, r1, r2⟩ := run_append_arg_grows (P := P) w t o.type e i z size bytes h1 h2 h3 h4 h5 h6 h7 b n cap olds hlo (holds b rfl) ad m c news hn hc hfull b1 b2
    unfold Oper.wp execOp
    simp only [hop, resolve, invoke, builtin, Sem.run_bind, Sem.run_pure, Result.andThen_ok, List.map_toArray, List.map_cons, List.map_nil, hs, hx, hrun]
    exact hK v' w' r1 r2
  | none =>
    obtain ⟨rfl, rfl⟩ := hnone rfl
    obtain rfl : olds = [] := List.eq_nil_of_length_eq_zero (by simpa using hlo)
    obtain ⟨v', w', hrun, r1, r2, _⟩ := run_append_own (P := P) w w.heap.size t o.type e i z size bytes h1 h2 h3 h4 h5 h6 h7 (.slice none 0 0) 0 [] (World.ownsRow_nil w _ e size) ad m c news hn hc h1c b1 b2 (Nat.le_refl _)
    unfold Oper.wp execOp
    simp only [hop, resolve, invoke, builtin, Sem.run_bind, Sem.run_pure, Result.andThen_ok, List.map_toArray, List.map_cons, List.map_nil, hs, hx, hrun]
    exact hK v' w' r1 r2
end
theorem cells_sqs {w : World} {B : Nat} {A : Option Addr} {L : List Sq} (h : SqsAt w B A L) : ∀ b, A = some b → ∀ j u, (flat L)[j]? = some u → w.cell? (b.add j) = some u := by
  intro b hb j u hu
  have hj := (List.getElem?_eq_some_iff.1 hu).1
  rw [flat_len] at hj
  obtain ⟨q, hq⟩ : ∃ q, j / 3 = q := ⟨_, rfl⟩
  have hi : q < L.length := by omega
  obtain ⟨b', off, e, _, c0, c1, c2⟩ := h q _ (List.getElem?_eq_getElem hi)
  rw [hb] at e
  obtain rfl := Option.some.inj e
  obtain ⟨f0, f1, f2⟩ := flat_get L q _ (List.getElem?_eq_getElem hi)
  rw [show (⟨b', off, none⟩ : Addr).add j = ⟨b', off + j, none⟩ by simp [Addr.add]]
  rcases (by omega : j = q * 3 ∨ j = q * 3 + 1 ∨ j = q * 3 + 2) with e | e | e
  · rw [e] at hu ⊢; rw [f0] at hu; rw [← hu]; exact c0
  · rw [e] at hu ⊢; rw [f1] at hu; rw [← hu, ← Nat.add_assoc]; exact c1
  · rw [e] at hu ⊢; rw [f2] at hu; rw [← hu, ← Nat.add_assoc]; exact c2
/-- The three boxes of a call with a puzzle and a clue. -/
structure AZ (w V : World) (W H : Int) (A : Option Addr) (n c : Nat) (x y d : Int) : Prop where
  bel : Below w.heap.size w V
  P : Cv3 w.heap.size V (.int .i64 W) (.int .i64 H) (.slice A n c)
  C : Cv3 (w.heap.size + 1) V (.int .i64 x) (.int .i64 y) (.int .i64 d)
  R : Cv3 (w.heap.size + 2) V (.int .i64 0) (.int .i64 0) (.slice none 0 0)
  fz : ∀ o, V.frozen? ⟨w.heap.size + 2, o, none⟩ = false
theorem AZ.keep {w V V' : World} {W H : Int} {A : Option Addr} {n c : Nat} {x y d : Int} (h : AZ w V W H A n c x y d) (hb : Below V.heap.size V V') : AZ w V' W H A n c x y d :=
  ⟨h.bel.trans (hb.mono h.bel.size), h.P.next hb, h.C.next hb, h.R.next hb, fun o => (hb.frozen (p := ⟨w.heap.size + 2, o, none⟩) h.R.lt).trans (h.fz o)⟩
theorem AZ.start (w : World) (W H : Int) (A : Option Addr) (n c : Nat) (x y d : Int) : AZ w (((w.alloc (.cells #[.int .i64 W, .int .i64 H, .slice A n c] 31)).alloc (.cells #[.int .i64 x, .int .i64 y, .int .i64 d] 60)).alloc (.cells #[.int .i64 0, .int .i64 0, .slice none 0 0] 31)) W H A n c x y d := by
  have b1 : ∀ (V : World) (o : Obj), Below V.heap.size V (V.alloc o) := fun V o => (Below.refl _ _).alloc (Nat.le_refl _) o
  have P0 := Cv3.start w (.int .i64 W) (.int .i64 H) (.slice A n c) 31
  have C0 := Cv3.start (w.alloc (.cells #[.int .i64 W, .int .i64 H, .slice A n c] 31)) (.int .i64 x) (.int .i64 y) (.int .i64 d) 60
  have R0 := Cv3.start ((w.alloc (.cells #[.int .i64 W, .int .i64 H, .slice A n c] 31)).alloc (.cells #[.int .i64 x, .int .i64 y, .int .i64 d] 60)) (.int .i64 0) (.int .i64 0) (.slice none 0 0) 31
  rw [World.size_alloc] at C0
  rw [World.size_alloc, World.size_alloc] at R0
  exact ⟨((b1 _ _).alloc (by simp) _).alloc (by simp <;> omega) _, (P0.next (b1 _ _)).next (b1 _ _), C0.next (b1 _ _), R0, fun o => World.frozen?_alloc_at _ _ _ _ (by simp)⟩
def AcOk (W H : Int) (L : List Sq) (s : Sq) : Prop := GoodP W H L ∧ L.length ≠ 6 ∧ ClueOk (W * H) s
noncomputable def acV (W H : Int) (L : List Sq) (s : Sq) : Int × Int × List Sq × Bool := if dc (AcOk W H L s) then (W, H, L ++ [s], true) else (0, 0, [], false)
theorem acV_yes {W H : Int} {L : List Sq} {s : Sq} (h : AcOk W H L s) : acV W H L s = (W, H, L ++ [s], true) := by unfold acV; rw [dc_true h]; rfl
theorem acV_no {W H : Int} {L : List Sq} {s : Sq} (h : ¬ AcOk W H L s) : acV W H L s = (0, 0, [], false) := by unfold acV; rw [dc_false h]; rfl
theorem acV_len (W H : Int) (L : List Sq) (s : Sq) : (acV W H L s).2.2.1.length ≤ 30 := by
  by_cases h : AcOk W H L s
  · rw [acV_yes h]; have := h.1.2.1; simp; omega
  · rw [acV_no h]; simp
theorem withClues_any (W H : Int) (A A2 : Option Addr) (n c n2 c2 : Nat) (w : World) :
    Calls Tryz.prog 30 #[.agg #[.int .i64 W, .int .i64 H, .slice A n c], .slice A2 n2 c2] w fun e w' => e = .returned (.agg #[.int .i64 W, .int .i64 H, .slice A2 n2 c2]) ∧ Below w.heap.size w w' := by
  go_enter Tryz.func30, Tryz.ntmps30
  go_wp2_with fail
  refine bodyPost_ret (v := .agg #[.int .i64 W, .int .i64 H, .slice A2 n2 c2]) (by simp [results, Tryz.results30, go_sem]) rfl ?_
  exact ⟨rfl, ((Below.refl _ _).alloc (Nat.le_refl _) _).alloc (by simp) _⟩
theorem pzWith_any (W H : Int) (A A2 : Option Addr) (n c n2 c2 : Nat) (w : World) :
    Calls Tryz.prog 28 #[.agg #[.int .i64 W, .int .i64 H, .slice A n c], .slice A2 n2 c2] w fun e w' => e = .returned (.agg #[.int .i64 W, .int .i64 H, .slice A2 n2 c2]) ∧ Below w.heap.size w w' := by
  go_enter Tryz.func28, Tryz.ntmps28
  go_wp2_with fail
  refine bodyPost_ret (v := .agg #[.int .i64 W, .int .i64 H, .slice A2 n2 c2]) (by simp [results, Tryz.results28, go_sem]) rfl ?_
  exact ⟨rfl, ((Below.refl _ _).alloc (Nat.le_refl _) _).alloc (by simp) _⟩
end Go.Proofs.YtchabjmdjpfkfaaGreat
namespace Go.Proofs.YtchabjmdjpfkfaaGreat
open Go.RowKit

section
variable {P : Program} {ops : Array Oper} {Q : Exit → Act → World → Prop} {md : Region.Mode} {S : World → Prop}
/-- Two operations that may come. -/
theorem wpTop.two (i j : Nat) {n : Nat} {o o' : Oper} {f : Nat} {done : Array Bool} {a : Act} {w : World} (ho : ops[i]? = some o) (ho' : ops[j]? = some o') (hr : Region.ready md ops done = [i, j])
    (h : ∀ K' : Act → World → Prop, Shut (∀ a w, (i < n → S w) → ((i < n → S w) → wpTop P md ops Q S n f (done.setIfInBounds i true) a w) → K' a w) →
      if Region.wanted o (yielded ops a.tmps) = true then Oper.wp P o a w K' Q else K' (a.put o.dst undef) w)
    (h' : ∀ K' : Act → World → Prop, Shut (∀ a w, (j < n → S w) → ((j < n → S w) → wpTop P md ops Q S n f (done.setIfInBounds j true) a w) → K' a w) →
      if Region.wanted o' (yielded ops a.tmps) = true then Oper.wp P o' a w K' Q else K' (a.put o'.dst undef) w) : wpTop P md ops Q S n (f + 1) done a w := by
  refine ⟨fun e => (by rw [hr] at e; cases e), fun k hk => ?_⟩
  rw [hr] at hk
  rcases List.mem_cons.1 hk with rfl | hk
  · exact wpOp_step ho fun K' hK => h K' fun a w hS hW => hK a w ⟨hS, hW hS⟩
  · obtain rfl := List.mem_singleton.1 hk
    exact wpOp_step ho' fun K' hK => h' K' fun a w hS hW => hK a w ⟨hS, hW hS⟩
end
theorem lit_at3 (w2 X : World) (b : Nat) (hb : X.heap.size = b) (h : w2.heap.size ≤ b) : (X.alloc (.cells #[] 60)).ownsRow w2.heap.size 60 3 (.slice (some ⟨b, 0, none⟩) 0 0) 0 [] := by
  subst hb
  exact own_base (World.ownsRow_lit X #[] 0 (Nat.le_refl _) (Nat.zero_le _) rfl) h
theorem src_sqsA {w : World} {B : Nat} {A : Option Addr} {L : List Sq} {n c : Nat} (h : SqsAt w B A L) (hl : L.length = n) (hc : n ≤ c) (hA : A = none → c = 0) : Src w A n c (flat L) := by
  cases A with
  | none =>
    have := hA rfl
    have hn : L = [] := List.eq_nil_of_length_eq_zero (by omega)
    subst hn
    exact .inl ⟨rfl, by omega, by omega, rfl⟩
  | some b => exact .inr ⟨b, rfl, cells_sqs h b rfl⟩
theorem ac_end {w w3 w9 : World} {W H : Int} {n c7 : Nat} {A7 : Option Addr} {L : List Sq} {s : Sq} (hl : L.length = n) (hne : w.heap.size + 2 < w3.heap.size) (o9 : w9.ownsRow w3.heap.size 60 3 (.slice A7 (n + 1) c7) (n + 1) (flat L ++ [.int .i64 s.x, .int .i64 s.y, .int .i64 s.d])) (hbf : Below w.heap.size w w9) :
    RetPuzzle w W H (L ++ [s]) true (.returned (.tuple #[.agg #[.int .i64 W, .int .i64 H, .slice A7 (n + 1) c7], .bool true])) (((w9.setCell ⟨w.heap.size + 2, 0, none⟩ (.int .i64 W)).setCell ⟨w.heap.size + 2, 1, none⟩ (.int .i64 H)).setCell ⟨w.heap.size + 2, 2, none⟩ (.slice A7 (n + 1) c7)) := by
  have R1 := own_base (ownsRow_setCell_below (ownsRow_setCell_below (ownsRow_setCell_below o9 (a := ⟨w.heap.size + 2, 0, none⟩) hne (.int .i64 W)) (a := ⟨w.heap.size + 2, 1, none⟩) hne (.int .i64 H)) (a := ⟨w.heap.size + 2, 2, none⟩) hne (.slice A7 (n + 1) c7)) (show w.heap.size ≤ w3.heap.size by omega)
  exact RetPuzzle.mk (by simp [hl]) (by rw [flat_app]; exact R1) (((hbf.setCell (p := ⟨w.heap.size + 2, 0, none⟩) (by simp) _).setCell (p := ⟨w.heap.size + 2, 1, none⟩) (by simp) _).setCell (p := ⟨w.heap.size + 2, 2, none⟩) (by simp) _)
/-- A row in another block than the one that grows stays. -/
theorem new3g {W w6 : World} {a b d : Value} {b0 : Nat} {row : Option Nat} (hg : W.grownBy w6 row) (hne : row ≠ some b0) (hW : ∀ j u, [a, b, d][j]? = some u → W.cell? ((⟨b0, 0, none⟩ : Addr).add j) = some u) : ∀ j u, [a, b, d][j]? = some u → w6.cell? ((⟨b0, 0, none⟩ : Addr).add j) = some u := fun j u hj => by
  have h := hW j u hj
  rw [add_at] at h ⊢
  exact hg.cell h (fun e => hne e.symm)
theorem new3k {W : World} {a b d : Value} {b0 : Nat} (o : Obj) (hb : b0 < W.heap.size) (hW : ∀ j u, [a, b, d][j]? = some u → W.cell? ((⟨b0, 0, none⟩ : Addr).add j) = some u) : ∀ j u, [a, b, d][j]? = some u → (W.alloc o).cell? ((⟨b0, 0, none⟩ : Addr).add j) = some u := fun j u hj => by
  have h := hW j u hj
  rw [add_at] at h ⊢
  exact (((Below.refl _ W).alloc (Nat.le_refl _) o).cell (p := ⟨b0, 0 + j, none⟩) hb).trans h
end Go.Proofs.YtchabjmdjpfkfaaGreat
namespace Go.Proofs
open Go.Shelf
shelf_lay_g Lays8.n4 Nm8 4 at Tryz 50 as YtchabjmdjpfkfaaGreat.growCl
end Go.Proofs
namespace Go.Proofs.YtchabjmdjpfkfaaGreat
open Go.RowKit

/-- As RowsAt; a row that is nil has no room. -/
def RowsC (w : World) (B : Nat) (A : Option Addr) (M : List (List Sq)) : Prop :=
  ∀ i l, M[i]? = some l → ∃ b off A' c, A = some ⟨b, off, none⟩ ∧ b < B ∧ w.cell? ⟨b, off + i, none⟩ = some (.slice A' l.length c) ∧ l.length ≤ c ∧ SqsAt w B A' l ∧ (A' = none → l.length = 0 ∧ c = 0)
theorem RowsC.below {w w' : World} {B : Nat} {A : Option Addr} {M : List (List Sq)} (h : RowsC w B A M) (hb : Below B w w') : RowsC w' B A M := by
  intro i l hl
  obtain ⟨b, off, A', c, e, hB, c0, hc, hi, hz⟩ := h i l hl
  exact ⟨b, off, A', c, e, hB, (hb.cell (p := ⟨b, _, none⟩) hB).trans c0, hc, hi.below hb, hz⟩
theorem RowsC.mono {w : World} {B B' : Nat} {A : Option Addr} {M : List (List Sq)} (h : RowsC w B A M) (hB : B ≤ B') : RowsC w B' A M := by
  intro i l hl
  obtain ⟨b, off, A', c, e, hb, c0, hc, hi, hz⟩ := h i l hl
  exact ⟨b, off, A', c, e, by omega, c0, hc, hi.mono hB, hz⟩
theorem catc_take (M : List (List Sq)) (k : Nat) (l : List Sq) (h : M[k]? = some l) : (M.take (k + 1)).flatten = (M.take k).flatten ++ l := by
  rw [List.take_add_one, h]; simp
theorem catc_len_le (M : List (List Sq)) (k : Nat) : (M.take k).flatten.length ≤ M.flatten.length := by
  have := congrArg List.length (congrArg List.flatten (List.take_append_drop k M))
  rw [List.flatten_append, List.length_append] at this
  omega
/-- It returns these squares in memory of the call's own. -/
def RetQc (w : World) (L : List Sq) (e : Ending) (w' : World) : Prop :=
  ∃ A c, e = .returned (.slice A L.length c) ∧ w'.ownsRow w.heap.size 60 3 (.slice A L.length c) L.length (flat L) ∧ Below w.heap.size w w'
theorem alloc_topc (w : World) (o : Obj) : (w.alloc o).heap[w.heap.size]? = some o := by
  show (w.heap.push o)[w.heap.size]? = some o
  simp
theorem growC_any (n : Nat) (w : World) (hn : n ≤ 1000000) : Calls Tryz.prog 50 #[.slice none 0 0, .int .i64 n] w fun e w' => ∃ A c, e = .returned (.slice A 0 c) ∧ w'.ownsRow w.heap.size 60 3 (.slice A 0 c) 0 [] ∧ Below w.heap.size w w' := by
  obtain ⟨i0, hi, hz0, hz1, hz2⟩ := info_parts infoCl
  rcases Nat.eq_zero_or_pos n with rfl | h0
  · refine (Any8.slices_Grow_room growCl none 0 0 0 w (Nat.le_refl _) (by omega) (by omega) (by omega)).mono ?_
    rintro e w' ⟨rfl, rfl⟩
    exact ⟨none, 0, rfl, World.ownsRow_nil _ _ _ _, Below.refl _ _⟩
  · refine (Any8.slices_Grow_grow growCl i0 (.agg #[.int .i64 0, .int .i64 0, .int .i64 0]) hi hz0 (by omega) none 0 0 n [] w (Nat.le_refl _) (by omega) (by rw [hz2]; omega) (by omega) (by simp) (fun _ => rfl) (fun a e => by cases e)).mono ?_
    rintro e w' ⟨rfl, rfl⟩
    have hge := grownCap_ge w (0 + n) 0 60
    have hle := grownCap_le_maxLen w (0 + n) 0 60 (by unfold maxLen; omega)
    refine ⟨_, _, rfl, ⟨by simp, .inr ⟨_, _, _, rfl, Nat.le_refl _, alloc_topc w.drew _, Nat.zero_le _, hle, ?_, by simp⟩⟩, ((Below.refl _ w).drew).alloc (Nat.le_refl _) _⟩
    simp only [Array.size_append, size_zeroCells]
    have e1 : (Value.agg #[.int .i64 0, .int .i64 0, .int .i64 0]).cells.size = 3 := rfl
    have e2 : (#[] : Array Value).size = 0 := rfl
    have e3 : grownCap w (0 + n) 0 (growCl_ren.t 25) = grownCap w (0 + n) 0 60 := rfl
    rw [e1, e3]
    simp only [List.size_toArray, List.length_nil]
    omega


set_option maxRecDepth 100000 in
set_option maxHeartbeats 4000000 in
theorem concatC_any (A : Option Addr) (n c : Nat) (M : List (List Sq)) (w : World) (hl : M.length = n) (hn : n ≤ 1048576) (ht : M.flatten.length ≤ 1000000) (hM : RowsC w w.heap.size A M) :
    Calls Tryz.prog 31 #[.slice A n c] w (RetQc w M.flatten) := by
  subst hl
  obtain ⟨i0, hi, hz0, hz1, hz2⟩ := info_parts infoCl
  go_enter Tryz.func31, Tryz.ntmps31
  go_wp2_with fail
  go_loopw [3, 11] (fun v i wr => ∃ (k : Nat), k ≤ M.length ∧ i = .int .i64 k ∧ v = .int .i64 (((M.take k).flatten.length : Nat) : Int) ∧ Below w.heap.size w wr) (fun _ i _ => M.length - (intOf i).toNat)
  case atStart => exact ⟨0, Nat.zero_le _, rfl, rfl, Below.refl _ _⟩
  case round =>
    obtain ⟨k, hk, rfl, rfl, hbr⟩ := hrel
    by_cases hlt : k < M.length
    · obtain ⟨l, hs⟩ : ∃ l, M[k]? = some l := ⟨_, List.getElem?_eq_getElem hlt⟩
      obtain ⟨b, off, A2, c2, rfl, hb, d0, hlc, hI, hnil⟩ := (hM.below hbr) k l hs
      have k0 : (0 : Int) ≤ (k : Int) := by omega
      have k1 : (k : Int) < (M.length : Int) := by omega
      have htk := congrArg List.length (catc_take M k l hs)
      rw [List.length_append] at htk
      have htot := Nat.le_trans (catc_len_le M (k + 1)) ht
      obtain ⟨s, hse⟩ : ∃ s, (M.take k).flatten.length = s := ⟨_, rfl⟩
      rw [hse] at htk ⊢
      rw [htk] at htot
      have HK := Lib.hid htk
      have w1 : IntKind.i64.wrap ((s : Int) + (l.length : Int)) = (s : Int) + (l.length : Int) := IntWalk.i64_in _ (by omega)
      have w2 : ¬ (s : Int) + (l.length : Int) < 0 := by omega
      clear hs htk hM hse
      go_wp2_with fail
      go_roundw
      case rel => exact ⟨k + 1, by omega, by go_num, by rw [HK.out]; go_num, hbr⟩
      case measure => simp [intOf]; omega
    · obtain rfl : k = M.length := by omega
      rw [List.take_of_length_le (Nat.le_refl _)]
      obtain ⟨s, hse⟩ : ∃ s, M.flatten.length = s := ⟨_, rfl⟩
      rw [hse] at ht ⊢
      have HSE := Lib.hid hse
      clear hse
      go_wp2_with fail
      refine (growC_any s _ ht).mono ?_
      rintro e w2 ⟨A3, c3, rfl, ho3, hb3⟩
      have hB3 := hbr.trans (hb3.mono hbr.size)
      have ho3 := own_base ho3 hbr.size
      clear hbr hb3
      go_wp2_with fail
      go_loopw [6, 27] (fun v i wr => ∃ (k : Nat) (A1 : Option Addr) (n1 c1 : Nat), k ≤ M.length ∧ i = .int .i64 k ∧ v = .slice A1 n1 c1 ∧ n1 = (M.take k).flatten.length ∧ Below w.heap.size w wr ∧ wr.ownsRow w.heap.size 60 3 (.slice A1 n1 c1) n1 (flat (M.take k).flatten)) (fun _ i _ => M.length - (intOf i).toNat)
      case atStart => exact ⟨0, A3, 0, c3, Nat.zero_le _, rfl, rfl, rfl, hB3, ho3⟩
      case round =>
        obtain ⟨k, A1, n1, c1, hk, rfl, rfl, hn1, hbr, hown⟩ := hrel
        have HN := Lib.hid hn1
        by_cases hlt : k < M.length
        · obtain ⟨l, hs⟩ : ∃ l, M[k]? = some l := ⟨_, List.getElem?_eq_getElem hlt⟩
          obtain ⟨b, off, A2, c2, rfl, hb, d0, hlc, hI, hnil⟩ := (hM.below hbr) k l hs
          have k0 : (0 : Int) ≤ (k : Int) := by omega
          have k1 : (k : Int) < (M.length : Int) := by omega
          have htk := catc_take M k l hs
          have htot : (M.take (k + 1)).flatten.length ≤ 1000000 := by have := catc_len_le M (k + 1); have := HSE.out; omega
          have hlen2 : n1 + l.length ≤ 1000000 := by rw [htk, List.length_append] at htot; omega
          have hsrc := src_sqsA hI rfl hlc (fun h => (hnil h).2)
          have hby1 : n1 + l.length ≤ maxLen := by unfold maxLen; omega
          have hby2 : (n1 + l.length) * 24 ≤ 140737488355328 := by omega
          have HS := Lib.hid htk
          clear hs htk hM htot hn1
          go_wp2_with (at_builtin; refine app_list rfl _ _ _ rfl w.heap.size 60 i0 (.agg #[.int .i64 0, .int .i64 0, .int .i64 0]) 3 24 Tryz.underlying29 hi hz0 hz1 hz2 rfl (by decide) (.slice A1 n1 c1) n1 _ rfl hown A2 l.length c2 (flat l) rfl (flat_len l) hsrc (flat_one l) hby1 hby2 hbr.size ?_; intro v' w6 hown6 hgrow hv6; obtain ⟨A6, c6, rfl⟩ := own_val hown6; have hB6 := hbr.grown hgrow hbr.size (fun kk e => (hown.lt kk e).1))
          clear hgrow hv6
          go_roundw
          case rel => exact ⟨k + 1, A6, n1 + l.length, c6, by omega, by go_num, rfl, by rw [HS.out, List.length_append, HN.out], hB6, by rw [HS.out, flat_app]; exact hown6⟩
          case measure => simp [intOf]; omega
        · obtain rfl : k = M.length := by omega
          rw [List.take_of_length_le (Nat.le_refl _)] at hown
          have hn2 : n1 = M.flatten.length := by have := HN.out; rwa [List.take_of_length_le (Nat.le_refl _)] at this
          have HN2 := Lib.hid hn2
          clear hM hn1 hn2
          go_wp2_with fail
          go_ret
          obtain rfl := HN2.out
          exact ⟨A1, c1, rfl, hown, hbr⟩
end Go.Proofs.YtchabjmdjpfkfaaGreat
namespace Go.Proofs.YtchabjmdjpfkfaaGreat
open Go.RowKit

/-- The two boxes of a call with a puzzle: it, and the result's. -/
structure DZ (w V : World) (W H : Int) (A : Option Addr) (n c : Nat) : Prop where
  bel : Below w.heap.size w V
  P : Cv3 w.heap.size V (.int .i64 W) (.int .i64 H) (.slice A n c)
  R : Cv3 (w.heap.size + 1) V (.int .i64 0) (.int .i64 0) (.slice none 0 0)
  fz : ∀ o, V.frozen? ⟨w.heap.size + 1, o, none⟩ = false
theorem DZ.keep {w V V' : World} {W H : Int} {A : Option Addr} {n c : Nat} (h : DZ w V W H A n c) (hb : Below V.heap.size V V') : DZ w V' W H A n c :=
  ⟨h.bel.trans (hb.mono h.bel.size), h.P.next hb, h.R.next hb, fun o => (hb.frozen (p := ⟨w.heap.size + 1, o, none⟩) h.R.lt).trans (h.fz o)⟩
theorem DZ.start (w : World) (W H : Int) (A : Option Addr) (n c : Nat) : DZ w ((w.alloc (.cells #[.int .i64 W, .int .i64 H, .slice A n c] 31)).alloc (.cells #[.int .i64 0, .int .i64 0, .slice none 0 0] 31)) W H A n c := by
  have b1 : ∀ (V : World) (o : Obj), Below V.heap.size V (V.alloc o) := fun V o => (Below.refl _ _).alloc (Nat.le_refl _) o
  have P0 := Cv3.start w (.int .i64 W) (.int .i64 H) (.slice A n c) 31
  have R0 := Cv3.start (w.alloc (.cells #[.int .i64 W, .int .i64 H, .slice A n c] 31)) (.int .i64 0) (.int .i64 0) (.slice none 0 0) 31
  rw [World.size_alloc] at R0
  exact ⟨(b1 _ _).alloc (by simp) _, P0.next (b1 _ _), R0, fun o => World.frozen?_alloc_at _ _ _ _ (by simp)⟩
def DcOk (W H : Int) (L : List Sq) (k : Int) : Prop := GoodP W H L ∧ 0 ≤ k ∧ k < L.length
noncomputable def dcV (W H : Int) (L : List Sq) (k : Int) : Int × Int × List Sq × Bool := if dc (DcOk W H L k) then (W, H, L.eraseIdx k.toNat, true) else (0, 0, [], false)
theorem dcV_yes {W H : Int} {L : List Sq} {k : Int} (h : DcOk W H L k) : dcV W H L k = (W, H, L.eraseIdx k.toNat, true) := by unfold dcV; rw [dc_true h]; rfl
theorem dcV_no {W H : Int} {L : List Sq} {k : Int} (h : ¬ DcOk W H L k) : dcV W H L k = (0, 0, [], false) := by unfold dcV; rw [dc_false h]; rfl
theorem dcV_len (W H : Int) (L : List Sq) (k : Int) : (dcV W H L k).2.2.1.length ≤ 30 := by
  by_cases h : DcOk W H L k
  · rw [dcV_yes h]; have := h.1.2.1; have := List.length_eraseIdx_le L k.toNat; simp only; omega
  · rw [dcV_no h]; simp
theorem sqs_drop {w : World} {B : Nat} {A : Option Addr} {L : List Sq} (h : SqsAt w B A L) (k : Nat) : SqsAt w B (Option.map (fun x => x.add (k * 3)) A) (L.drop k) := by
  intro i s hs
  rw [List.getElem?_drop] at hs
  obtain ⟨b, off, rfl, hb, c0, c1, c2⟩ := h (k + i) s hs
  have e : off + (k + i) * 3 = off + k * 3 + i * 3 := by omega
  rw [e] at c0 c1 c2
  exact ⟨b, off + k * 3, by simp [Addr.add], hb, c0, c1, c2⟩
theorem sqs_nil {w : World} {B : Nat} {A : Option Addr} {L : List Sq} (h : L = []) : SqsAt w B A L := fun i s hs => by rw [h] at hs; simp at hs
theorem rows_two {W : World} {A1 A2 : Option Addr} {n1 c1 n2 c2 : Nat} {L1 L2 : List Sq} {t : TypeId} (l1 : L1.length = n1) (l2 : L2.length = n2) (h1 : SqsAt W W.heap.size A1 L1) (h2 : SqsAt W W.heap.size A2 L2) (hc1 : n1 ≤ c1) (hc2 : n2 ≤ c2) (e1 : A1 ≠ none) (e2 : A2 ≠ none) :
    RowsC (W.alloc (.cells #[.slice A1 n1 c1, .slice A2 n2 c2] t)) (W.alloc (.cells #[.slice A1 n1 c1, .slice A2 n2 c2] t)).heap.size (some ⟨W.heap.size, 0, none⟩) [L1, L2] := by
  subst l1 l2
  have hb : Below W.heap.size W (W.alloc (.cells #[.slice A1 L1.length c1, .slice A2 L2.length c2] t)) := (Below.refl _ _).alloc (Nat.le_refl _) _
  intro i l hl
  match i, hl with
  | 0, hl =>
    simp at hl; subst hl
    exact ⟨W.heap.size, 0, A1, c1, rfl, by simp, by simp, hc1, (h1.below hb).mono hb.size, fun e => absurd e e1⟩
  | 1, hl =>
    simp at hl; subst hl
    exact ⟨W.heap.size, 0, A2, c2, rfl, by simp, by simp, hc2, (h2.below hb).mono hb.size, fun e => absurd e e2⟩
theorem flat2 {L : List Sq} {k : Nat} : [L.take k, L.drop (k + 1)].flatten = L.eraseIdx k := by rw [List.eraseIdx_eq_take_drop_succ]; simp
end Go.Proofs.YtchabjmdjpfkfaaGreat
namespace Go.Proofs.YtchabjmdjpfkfaaGreat
open Go.RowKit

set_option maxRecDepth 100000 in
set_option maxHeartbeats 8000000 in
theorem pzWithout_any (ab : Addr) (n c : Nat) (L : List Sq) (k : Nat) (w : World) (hl : L.length = n) (hc : n ≤ c) (hn9 : n ≤ 1000) (hk : k < n) (hL : SqsAt w w.heap.size (some ab) L) :
    Calls Tryz.prog 27 #[.slice (some ab) n c, .int .i64 k] w fun e w' => ∃ A' c', e = .returned (.slice A' (n - 1) c') ∧ w'.ownsRow w.heap.size 60 3 (.slice A' (n - 1) c') (n - 1) (flat (L.eraseIdx k)) ∧ Below w.heap.size w w' := by
  have hLW : ∀ V, Below w.heap.size w V → SqsAt V V.heap.size (some ab) L := fun V hb => (hL.below hb).mono hb.size
  have hT1 : (L.take k).length = k := by rw [List.length_take]; omega
  have hT2 : (L.drop (k + 1)).length = n - (k + 1) := by rw [List.length_drop, hl]
  have HT1 := Lib.hid hT1
  have HT2 := Lib.hid hT2
  have HLW := Lib.hid hLW
  obtain ⟨i0, hi, hz0, hz1, hz2⟩ := info_parts infoCl
  have q0 : (0 : Int) ≤ (k : Int) := by omega
  have q1 : (k : Int) ≤ (c : Int) := by omega
  have q2 : (k : Int) + 1 ≤ (n : Int) := by omega
  have q3 : (n : Int) ≤ (c : Int) := by omega
  have q4 : (0 : Int) ≤ (k : Int) + 1 := by omega
  have q5 : IntKind.i64.wrap ((k : Int) + 1) = (k : Int) + 1 := IntWalk.i64_in _ (by omega)
  have hc1 : 0 + k ≤ maxLen := by unfold maxLen; omega
  have hc2 : (0 + k) * 24 ≤ 140737488355328 := by omega
  have hE : flat (L.take k) ++ flat (L.drop (k + 1)) = flat (L.eraseIdx k) := by rw [← flat_app, List.eraseIdx_eq_take_drop_succ]
  have HE := Lib.hid hE
  clear hT1 hT2 hLW hL hl hE
  by_cases hcj : c = k + 1
  · subst hcj
    obtain rfl : n = k + 1 := by omega
    have q6 : (k : Int) ≤ (k : Int) + 1 := by omega
    have hc3 : k + 0 ≤ maxLen := by unfold maxLen; omega
    have hc4 : (k + 0) * 24 ≤ 140737488355328 := by omega
    go_enter Tryz.func27, Tryz.ntmps27
    go_wp2_with fail
    refine wp_region_top 11 (fun _ => True) (by kernel_rfl) trivial (fun hHeld => ?_)
    refine wpTop.take 1 (v := ?_) rfl (by kernel_rfl) (by kernel_rfl) (by kernel_rfl) (by kernel_rfl) (fun _ _ _ h => h) (Or.inl ⟨by rfl, ?_⟩) (by assumption) ?_
    rotate_left
    · intro w hSw; (try dsimp only at hSw); go_simp; try (with_reducible rfl)
    try simp only [Act.put, List.getElem_toArray, List.getElem_cons_zero, List.getElem_cons_succ, List.setIfInBounds_toArray, List.set_cons_zero, List.set_cons_succ]
    refine wpTop.take 2 (v := ?_) rfl (by kernel_rfl) (by kernel_rfl) (by kernel_rfl) (by kernel_rfl) (fun _ _ _ h => h) (Or.inl ⟨by rfl, ?_⟩) (by assumption) ?_
    rotate_left
    · intro w hSw; (try dsimp only at hSw); go_simp; try (with_reducible rfl)
    try simp only [Act.put, List.getElem_toArray, List.getElem_cons_zero, List.getElem_cons_succ, List.setIfInBounds_toArray, List.set_cons_zero, List.set_cons_succ]
    refine wpTop.take 3 (v := ?_) rfl (by kernel_rfl) (by kernel_rfl) (by kernel_rfl) (by kernel_rfl) (fun _ _ _ h => h) (Or.inl ⟨by rfl, ?_⟩) (by assumption) ?_
    rotate_left
    · intro w hSw; (try dsimp only at hSw); go_simp; try (with_reducible rfl)
    try simp only [Act.put, List.getElem_toArray, List.getElem_cons_zero, List.getElem_cons_succ, List.setIfInBounds_toArray, List.set_cons_zero, List.set_cons_succ]
    refine wpTop.take 5 (v := ?_) rfl (by kernel_rfl) (by kernel_rfl) (by kernel_rfl) (by kernel_rfl) (fun _ _ _ h => h) (Or.inl ⟨by rfl, ?_⟩) (by assumption) ?_
    rotate_left
    · intro w hSw; (try dsimp only at hSw); go_simp; try (with_reducible rfl)
    try simp only [Act.put, List.getElem_toArray, List.getElem_cons_zero, List.getElem_cons_succ, List.setIfInBounds_toArray, List.set_cons_zero, List.set_cons_succ]
    refine wpTop.take 6 (v := ?_) rfl (by kernel_rfl) (by kernel_rfl) (by kernel_rfl) (by kernel_rfl) (fun _ _ _ h => h) (Or.inl ⟨by rfl, ?_⟩) (by assumption) ?_
    rotate_left
    · intro w hSw; (try dsimp only at hSw); go_simp; try (with_reducible rfl)
    try simp only [Act.put, List.getElem_toArray, List.getElem_cons_zero, List.getElem_cons_succ, List.setIfInBounds_toArray, List.set_cons_zero, List.set_cons_succ]
    refine wpTop.take 7 (v := ?_) rfl (by kernel_rfl) (by kernel_rfl) (by kernel_rfl) (by kernel_rfl) (fun _ _ _ h => h) (Or.inl ⟨by rfl, ?_⟩) (by assumption) ?_
    rotate_left
    · intro w hSw; (try dsimp only at hSw); go_simp; try (with_reducible rfl)
    try simp only [Act.put, List.getElem_toArray, List.getElem_cons_zero, List.getElem_cons_succ, List.setIfInBounds_toArray, List.set_cons_zero, List.set_cons_succ]
    refine wpTop.take 8 (v := ?_) rfl (by kernel_rfl) (by kernel_rfl) (by kernel_rfl) (by kernel_rfl) (fun _ _ _ h => h) (Or.inl ⟨by rfl, ?_⟩) (by assumption) ?_
    rotate_left
    · intro w hSw; (try dsimp only at hSw); go_simp; try (with_reducible rfl)
    try simp only [Act.put, List.getElem_toArray, List.getElem_cons_zero, List.getElem_cons_succ, List.setIfInBounds_toArray, List.set_cons_zero, List.set_cons_succ]
    have hd : Below w.heap.size w w.drew := (Below.refl _ _).drew
    refine wpTop.one 0 rfl (by kernel_rfl) (fun K hK => ?_)
    go_simp
    refine hK.out _ _ (fun _ => trivial) (fun hH => ?_)
    clear hK K
    have hHeld := hH (by decide)
    clear hH
    try simp only [Act.put, List.getElem_toArray, List.getElem_cons_zero, List.getElem_cons_succ, List.setIfInBounds_toArray, List.set_cons_zero, List.set_cons_succ]
    have hab : ∀ o, Below w.heap.size w (w.drew.alloc o) := fun o => hd.alloc hd.size o
    refine wpTop.one 4 rfl (by kernel_rfl) (fun K hK => ?_)
    refine app_step rfl _ _ _ rfl w.heap.size 60 i0 (.agg #[.int .i64 0, .int .i64 0, .int .i64 0]) 3 24 Tryz.underlying29 hi hz0 hz1 hz2 rfl (by decide) (.slice (some ⟨_, 0, none⟩) 0 0) 0 [] rfl (lit_at3 w w.drew _ (by simp) (by simp)) (some ab) k (k + 1) (flat (L.take k)) rfl (by rw [flat_len, HT1.out]) (.inr ⟨_, rfl, cells_sqs ((HLW.out _ (hab _)).take k) _ rfl⟩) (flat_one _) hc1 hc2 (hab _).size ?_
    intro v6 w6 hown6 hgr6 _
    rw [Nat.zero_add, List.nil_append] at hown6
    obtain ⟨A6, c6, rfl⟩ := own_val hown6
    have hb6 : Below w.heap.size w w6 := (hab _).grown hgr6 (hab _).size (fun k hk => by simp [Value.ownBlock] at hk; omega)
    refine hK.out _ _ (fun _ => trivial) (fun hH => ?_)
    clear hK K
    have hHeld := hH (by decide)
    clear hH
    try simp only [Act.put, List.getElem_toArray, List.getElem_cons_zero, List.getElem_cons_succ, List.setIfInBounds_toArray, List.set_cons_zero, List.set_cons_succ]
    refine wpTop.one 9 rfl (by kernel_rfl) (fun K hK => ?_)
    refine app_step rfl _ _ _ rfl w.heap.size 60 i0 (.agg #[.int .i64 0, .int .i64 0, .int .i64 0]) 3 24 Tryz.underlying29 hi hz0 hz1 hz2 rfl (by decide) (.slice A6 k c6) k (flat (L.take k)) rfl hown6 (some ab) 0 0 (flat (L.drop (k + 1))) rfl (by rw [flat_len, HT2.out]; omega) (.inr ⟨_, rfl, cells_sqs (A := some ab) (B := 0) (sqs_nil (List.drop_eq_nil_of_le (by have := HT2.out; rw [List.length_drop] at this; omega))) _ rfl⟩) (flat_one _) hc3 hc4 hb6.size ?_
    intro v7 w7 hown7 hgr7 _
    rw [HE.out, show k + 0 = k + 1 - 1 by omega] at hown7
    obtain ⟨A7, c7, rfl⟩ := own_val hown7
    have hb7 : Below w.heap.size w w7 := hb6.grown hgr7 hb6.size (fun k hk => (hown6.lt k hk).1)
    refine hK.out _ _ (fun _ => trivial) (fun hH => ?_)
    clear hK K
    have hHeld := hH (by decide)
    clear hH
    try simp only [Act.put, List.getElem_toArray, List.getElem_cons_zero, List.getElem_cons_succ, List.setIfInBounds_toArray, List.set_cons_zero, List.set_cons_succ]
    refine wpTop.one 10 rfl (by kernel_rfl) (fun K hK => ?_)
    go_simp
    refine hK.out _ _ (fun _ => trivial) (fun hH => ?_)
    clear hK K
    have hHeld := hH (by decide)
    clear hH
    try simp only [Act.put, List.getElem_toArray, List.getElem_cons_zero, List.getElem_cons_succ, List.setIfInBounds_toArray, List.set_cons_zero, List.set_cons_succ]
    refine wpTop.all (by kernel_rfl) ?_ _
    go_wp2_with fail
    go_ret
    exact ⟨A7, c7, rfl, hown7, hb7⟩
  · have hc3 : k + (n - (k + 1)) ≤ maxLen := by unfold maxLen; omega
    have hc4 : (k + (n - (k + 1))) * 24 ≤ 140737488355328 := by omega
    go_enter Tryz.func27, Tryz.ntmps27
    go_wp2_with fail
    refine wp_region_top 11 (fun _ => True) (by kernel_rfl) trivial (fun hHeld => ?_)
    refine wpTop.take 1 (v := ?_) rfl (by kernel_rfl) (by kernel_rfl) (by kernel_rfl) (by kernel_rfl) (fun _ _ _ h => h) (Or.inl ⟨by rfl, ?_⟩) (by assumption) ?_
    rotate_left
    · intro w hSw; (try dsimp only at hSw); go_simp; try (with_reducible rfl)
    try simp only [Act.put, List.getElem_toArray, List.getElem_cons_zero, List.getElem_cons_succ, List.setIfInBounds_toArray, List.set_cons_zero, List.set_cons_succ]
    refine wpTop.take 2 (v := ?_) rfl (by kernel_rfl) (by kernel_rfl) (by kernel_rfl) (by kernel_rfl) (fun _ _ _ h => h) (Or.inl ⟨by rfl, ?_⟩) (by assumption) ?_
    rotate_left
    · intro w hSw; (try dsimp only at hSw); go_simp; try (with_reducible rfl)
    try simp only [Act.put, List.getElem_toArray, List.getElem_cons_zero, List.getElem_cons_succ, List.setIfInBounds_toArray, List.set_cons_zero, List.set_cons_succ]
    refine wpTop.take 3 (v := ?_) rfl (by kernel_rfl) (by kernel_rfl) (by kernel_rfl) (by kernel_rfl) (fun _ _ _ h => h) (Or.inl ⟨by rfl, ?_⟩) (by assumption) ?_
    rotate_left
    · intro w hSw; (try dsimp only at hSw); go_simp; try (with_reducible rfl)
    try simp only [Act.put, List.getElem_toArray, List.getElem_cons_zero, List.getElem_cons_succ, List.setIfInBounds_toArray, List.set_cons_zero, List.set_cons_succ]
    refine wpTop.take 5 (v := ?_) rfl (by kernel_rfl) (by kernel_rfl) (by kernel_rfl) (by kernel_rfl) (fun _ _ _ h => h) (Or.inl ⟨by rfl, ?_⟩) (by assumption) ?_
    rotate_left
    · intro w hSw; (try dsimp only at hSw); go_simp; try (with_reducible rfl)
    try simp only [Act.put, List.getElem_toArray, List.getElem_cons_zero, List.getElem_cons_succ, List.setIfInBounds_toArray, List.set_cons_zero, List.set_cons_succ]
    refine wpTop.take 6 (v := ?_) rfl (by kernel_rfl) (by kernel_rfl) (by kernel_rfl) (by kernel_rfl) (fun _ _ _ h => h) (Or.inl ⟨by rfl, ?_⟩) (by assumption) ?_
    rotate_left
    · intro w hSw; (try dsimp only at hSw); go_simp; try (with_reducible rfl)
    try simp only [Act.put, List.getElem_toArray, List.getElem_cons_zero, List.getElem_cons_succ, List.setIfInBounds_toArray, List.set_cons_zero, List.set_cons_succ]
    refine wpTop.take 7 (v := ?_) rfl (by kernel_rfl) (by kernel_rfl) (by kernel_rfl) (by kernel_rfl) (fun _ _ _ h => h) (Or.inl ⟨by rfl, ?_⟩) (by assumption) ?_
    rotate_left
    · intro w hSw; (try dsimp only at hSw); go_simp; try (with_reducible rfl)
    try simp only [Act.put, List.getElem_toArray, List.getElem_cons_zero, List.getElem_cons_succ, List.setIfInBounds_toArray, List.set_cons_zero, List.set_cons_succ]
    refine wpTop.take 8 (v := ?_) rfl (by kernel_rfl) (by kernel_rfl) (by kernel_rfl) (by kernel_rfl) (fun _ _ _ h => h) (Or.inl ⟨by rfl, ?_⟩) (by assumption) ?_
    rotate_left
    · intro w hSw; (try dsimp only at hSw); go_simp; try (with_reducible rfl)
    try simp only [Act.put, List.getElem_toArray, List.getElem_cons_zero, List.getElem_cons_succ, List.setIfInBounds_toArray, List.set_cons_zero, List.set_cons_succ]
    have hd : Below w.heap.size w w.drew := (Below.refl _ _).drew
    refine wpTop.one 0 rfl (by kernel_rfl) (fun K hK => ?_)
    go_simp
    refine hK.out _ _ (fun _ => trivial) (fun hH => ?_)
    clear hK K
    have hHeld := hH (by decide)
    clear hH
    try simp only [Act.put, List.getElem_toArray, List.getElem_cons_zero, List.getElem_cons_succ, List.setIfInBounds_toArray, List.set_cons_zero, List.set_cons_succ]
    have hab : ∀ o, Below w.heap.size w (w.drew.alloc o) := fun o => hd.alloc hd.size o
    refine wpTop.one 4 rfl (by kernel_rfl) (fun K hK => ?_)
    refine app_step rfl _ _ _ rfl w.heap.size 60 i0 (.agg #[.int .i64 0, .int .i64 0, .int .i64 0]) 3 24 Tryz.underlying29 hi hz0 hz1 hz2 rfl (by decide) (.slice (some ⟨_, 0, none⟩) 0 0) 0 [] rfl (lit_at3 w w.drew _ (by simp) (by simp)) (some ab) k (c) (flat (L.take k)) rfl (by rw [flat_len, HT1.out]) (.inr ⟨_, rfl, cells_sqs ((HLW.out _ (hab _)).take k) _ rfl⟩) (flat_one _) hc1 hc2 (hab _).size ?_
    intro v6 w6 hown6 hgr6 _
    rw [Nat.zero_add, List.nil_append] at hown6
    obtain ⟨A6, c6, rfl⟩ := own_val hown6
    have hb6 : Below w.heap.size w w6 := (hab _).grown hgr6 (hab _).size (fun k hk => by simp [Value.ownBlock] at hk; omega)
    refine hK.out _ _ (fun _ => trivial) (fun hH => ?_)
    clear hK K
    have hHeld := hH (by decide)
    clear hH
    try simp only [Act.put, List.getElem_toArray, List.getElem_cons_zero, List.getElem_cons_succ, List.setIfInBounds_toArray, List.set_cons_zero, List.set_cons_succ]
    refine wpTop.one 9 rfl (by kernel_rfl) (fun K hK => ?_)
    refine app_step rfl _ _ _ rfl w.heap.size 60 i0 (.agg #[.int .i64 0, .int .i64 0, .int .i64 0]) 3 24 Tryz.underlying29 hi hz0 hz1 hz2 rfl (by decide) (.slice A6 k c6) k (flat (L.take k)) rfl hown6 (some (ab.add ((k + 1) * 3))) (n - (k + 1)) (c - (k + 1)) (flat (L.drop (k + 1))) rfl (by rw [flat_len, HT2.out]) (.inr ⟨_, rfl, cells_sqs (sqs_drop (HLW.out _ hb6) (k + 1)) _ rfl⟩) (flat_one _) hc3 hc4 hb6.size ?_
    intro v7 w7 hown7 hgr7 _
    rw [HE.out, show k + (n - (k + 1)) = n - 1 by omega] at hown7
    obtain ⟨A7, c7, rfl⟩ := own_val hown7
    have hb7 : Below w.heap.size w w7 := hb6.grown hgr7 hb6.size (fun k hk => (hown6.lt k hk).1)
    refine hK.out _ _ (fun _ => trivial) (fun hH => ?_)
    clear hK K
    have hHeld := hH (by decide)
    clear hH
    try simp only [Act.put, List.getElem_toArray, List.getElem_cons_zero, List.getElem_cons_succ, List.setIfInBounds_toArray, List.set_cons_zero, List.set_cons_succ]
    refine wpTop.one 10 rfl (by kernel_rfl) (fun K hK => ?_)
    go_simp
    refine hK.out _ _ (fun _ => trivial) (fun hH => ?_)
    clear hK K
    have hHeld := hH (by decide)
    clear hH
    try simp only [Act.put, List.getElem_toArray, List.getElem_cons_zero, List.getElem_cons_succ, List.setIfInBounds_toArray, List.set_cons_zero, List.set_cons_succ]
    refine wpTop.all (by kernel_rfl) ?_ _
    go_wp2_with fail
    go_ret
    exact ⟨A7, c7, rfl, hown7, hb7⟩
theorem dc_none {w w2 : World} (hbf : Below w.heap.size w w2) : RetPuzzle w 0 0 [] false (.returned (.tuple #[.agg #[.int .i64 0, .int .i64 0, .slice none 0 0], .bool false])) (((w2.setCell ⟨w.heap.size + 1, 0, none⟩ (.int .i64 0)).setCell ⟨w.heap.size + 1, 1, none⟩ (.int .i64 0)).setCell ⟨w.heap.size + 1, 2, none⟩ (.slice none 0 0)) :=
  RetPuzzle.none_ (((hbf.setCell (p := ⟨w.heap.size + 1, 0, none⟩) (by simp) _).setCell (p := ⟨w.heap.size + 1, 1, none⟩) (by simp) _).setCell (p := ⟨w.heap.size + 1, 2, none⟩) (by simp) _)
theorem dc_some {w w2 : World} {W H : Int} {n c7 b : Nat} {A7 : Option Addr} {R : List Sq} (hl : n = R.length) (hne : w.heap.size + 1 < b) (o9 : w2.ownsRow b 60 3 (.slice A7 n c7) n (flat R)) (hbf : Below w.heap.size w w2) :
    RetPuzzle w W H R true (.returned (.tuple #[.agg #[.int .i64 W, .int .i64 H, .slice A7 n c7], .bool true])) (((w2.setCell ⟨w.heap.size + 1, 0, none⟩ (.int .i64 W)).setCell ⟨w.heap.size + 1, 1, none⟩ (.int .i64 H)).setCell ⟨w.heap.size + 1, 2, none⟩ (.slice A7 n c7)) := by
  have R1 := own_base (ownsRow_setCell_below (ownsRow_setCell_below (ownsRow_setCell_below o9 (a := ⟨w.heap.size + 1, 0, none⟩) hne (.int .i64 W)) (a := ⟨w.heap.size + 1, 1, none⟩) hne (.int .i64 H)) (a := ⟨w.heap.size + 1, 2, none⟩) hne (.slice A7 n c7)) (show w.heap.size ≤ b by omega)
  exact RetPuzzle.mk hl R1 (((hbf.setCell (p := ⟨w.heap.size + 1, 0, none⟩) (by simp) _).setCell (p := ⟨w.heap.size + 1, 1, none⟩) (by simp) _).setCell (p := ⟨w.heap.size + 1, 2, none⟩) (by simp) _)
end Go.Proofs.YtchabjmdjpfkfaaGreat
