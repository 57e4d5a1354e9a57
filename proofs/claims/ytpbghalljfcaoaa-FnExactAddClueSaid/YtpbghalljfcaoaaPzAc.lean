/- A clue put behind the others: both sides. -/
import Derived.Test.YtpbghalljfcaoaaPzD
import Derived.Test.YtpbghalljfcaoaaLast
import Derived.Test.YtpbghalljfcaoaaApp
import Derived.ArgAppend
set_option linter.all false
namespace Go.Proofs.Ytpbghalljfcaoaa
open Go.RowKit

section
variable {P : Program}
theorem grow_step {w : World} {ops : Array Oper} {o : Oper} {a : Act} {K : Act → World → Prop} {Q : Exit → Act → World → Prop} {E : Prop} (hgd : o.guard = none) (s x : Operand) (t : TypeId)
    (hop : o.op = Op.call { callee := Callee.builtin Builtin.append, args := #[s, x], argTypes := #[t, t] })
    (e : TypeId) (i : TypeInfo) (z : Value) (size bytes : Nat) (h1 : P.underlying t = some (.slice e)) (h2 : P.info? e = some i) (h3 : i.zero = some z) (h4 : i.size = size) (h5 : i.bytes = bytes) (h6 : z.cells.size = size) (h7 : 0 < size)
    (ao : Option Addr) (n cap : Nat) (olds : List Value) (hs : a.eval s = .slice ao n cap) (hnone : ao = none → n = 0 ∧ cap = 0) (hlo : olds.length = n * size) (holds : ∀ b, ao = some b → ∀ j u, olds[j]? = some u → w.cell? (b.add j) = some u)
    (ad : Addr) (m c : Nat) (news : List Value) (hx : a.eval x = .slice (some ad) m c) (hn : news.length = m * size) (hc : ∀ j u, news[j]? = some u → w.cell? (ad.add j) = some u) (h1c : ∀ u ∈ news, u.oneCell' = true)
    (hfull : cap < n + m) (b1 : n + m ≤ maxLen) (b2 : (n + m) * bytes ≤ 140737488355328)
    (hK : ∀ v' w', w'.ownsRow w.heap.size e size v' (n + m) (olds ++ news) → w.grownBy w' none → K (a.put o.dst v') w') :
    if Region.wanted o (yielded ops a.tmps) = true then Oper.wp P o a w K Q else E := by
  have hw : Region.wanted o (yielded ops a.tmps) = true := by simp [Region.wanted, hgd]
  rw [if_pos hw]
  cases ao with
  | some b =>
    obtain ⟨v', w', hrun, r1, r2⟩ := run_append_arg_grows (P := P) w t o.type e i z size bytes h1 h2 h3 h4 h5 h6 h7 b n cap olds hlo (holds b rfl) ad m c news hn hc hfull b1 b2
    unfold Oper.wp execOp
    simp only [hop, resolve, invoke, builtin, Sem.run_bind, Sem.run_pure, Result.andThen_ok, List.map_toArray, List.map_cons, List.map_nil, hs, hx, hrun]
    exact hK v' w' r1 r2
  | none =>
    obtain ⟨rfl, rfl⟩ := hnone rfl
    obtain rfl : olds = [] := List.eq_nil_of_length_eq_zero (by simpa using hlo)
    obtain ⟨v', w', hrun, r1, r2, _⟩ := run_append_own (P := P) w w.heap.size t o.type e i z size bytes h1 h2 h3 h4 h5 h6 h7 (.slice none 0 0) 0 [] (World.ownsRow_nil w _ e size) ad m c news hn hc h1c b1 b2 (Nat.le_refl _)
    unfold Oper.wp execOp
    simp only [hop, resolve, invoke, builtin, Sem.run_bind, Sem.run_pure, Result.andThen_ok, List.map_toArray, List.map_cons, List.map_nil, hs, hx, hrun]
    exact hK v' w' r1 r2
end
theorem cells_sqs {w : World} {B : Nat} {A : Option Addr} {L : List Sq} (h : SqsAt w B A L) : ∀ b, A = some b → ∀ j u, (flat L)[j]? = some u → w.cell? (b.add j) = some u := by
  intro b hb j u hu
  have hj := (List.getElem?_eq_some_iff.1 hu).1
  rw [flat_len] at hj
  obtain ⟨q, hq⟩ : ∃ q, j / 3 = q := ⟨_, rfl⟩
  have hi : q < L.length := by omega
  obtain ⟨b', off, e, _, c0, c1, c2⟩ := h q _ (List.getElem?_eq_getElem hi)
  rw [hb] at e
  obtain rfl := Option.some.inj e
  obtain ⟨f0, f1, f2⟩ := flat_get L q _ (List.getElem?_eq_getElem hi)
  rw [show (⟨b', off, none⟩ : Addr).add j = ⟨b', off + j, none⟩ by simp [Addr.add]]
  rcases (by omega : j = q * 3 ∨ j = q * 3 + 1 ∨ j = q * 3 + 2) with e | e | e
  · rw [e] at hu ⊢; rw [f0] at hu; rw [← hu]; exact c0
  · rw [e] at hu ⊢; rw [f1] at hu; rw [← hu, ← Nat.add_assoc]; exact c1
  · rw [e] at hu ⊢; rw [f2] at hu; rw [← hu, ← Nat.add_assoc]; exact c2
/-- The three boxes of a call with a puzzle and a clue. -/
structure AZ (w V : World) (W H : Int) (A : Option Addr) (n c : Nat) (x y d : Int) : Prop where
  bel : Below w.heap.size w V
  P : Cv3 w.heap.size V (.int .i64 W) (.int .i64 H) (.slice A n c)
  C : Cv3 (w.heap.size + 1) V (.int .i64 x) (.int .i64 y) (.int .i64 d)
  R : Cv3 (w.heap.size + 2) V (.int .i64 0) (.int .i64 0) (.slice none 0 0)
  fz : ∀ o, V.frozen? ⟨w.heap.size + 2, o, none⟩ = false
theorem AZ.keep {w V V' : World} {W H : Int} {A : Option Addr} {n c : Nat} {x y d : Int} (h : AZ w V W H A n c x y d) (hb : Below V.heap.size V V') : AZ w V' W H A n c x y d :=
  ⟨h.bel.trans (hb.mono h.bel.size), h.P.next hb, h.C.next hb, h.R.next hb, fun o => (hb.frozen (p := ⟨w.heap.size + 2, o, none⟩) h.R.lt).trans (h.fz o)⟩
theorem AZ.start (w : World) (W H : Int) (A : Option Addr) (n c : Nat) (x y d : Int) : AZ w (((w.alloc (.cells #[.int .i64 W, .int .i64 H, .slice A n c] 35)).alloc (.cells #[.int .i64 x, .int .i64 y, .int .i64 d] 25)).alloc (.cells #[.int .i64 0, .int .i64 0, .slice none 0 0] 35)) W H A n c x y d := by
  have b1 : ∀ (V : World) (o : Obj), Below V.heap.size V (V.alloc o) := fun V o => (Below.refl _ _).alloc (Nat.le_refl _) o
  have P0 := Cv3.start w (.int .i64 W) (.int .i64 H) (.slice A n c) 35
  have C0 := Cv3.start (w.alloc (.cells #[.int .i64 W, .int .i64 H, .slice A n c] 35)) (.int .i64 x) (.int .i64 y) (.int .i64 d) 25
  have R0 := Cv3.start ((w.alloc (.cells #[.int .i64 W, .int .i64 H, .slice A n c] 35)).alloc (.cells #[.int .i64 x, .int .i64 y, .int .i64 d] 25)) (.int .i64 0) (.int .i64 0) (.slice none 0 0) 35
  rw [World.size_alloc] at C0
  rw [World.size_alloc, World.size_alloc] at R0
  exact ⟨((b1 _ _).alloc (by simp) _).alloc (by simp <;> omega) _, (P0.next (b1 _ _)).next (b1 _ _), C0.next (b1 _ _), R0, fun o => World.frozen?_alloc_at _ _ _ _ (by simp)⟩
def AcOk (W H : Int) (L : List Sq) (s : Sq) : Prop := GoodP W H L ∧ L.length ≠ 6 ∧ ClueOk (W * H) s
noncomputable def acV (W H : Int) (L : List Sq) (s : Sq) : Int × Int × List Sq × Bool := if dc (AcOk W H L s) then (W, H, L ++ [s], true) else (0, 0, [], false)
theorem acV_yes {W H : Int} {L : List Sq} {s : Sq} (h : AcOk W H L s) : acV W H L s = (W, H, L ++ [s], true) := by unfold acV; rw [dc_true h]; rfl
theorem acV_no {W H : Int} {L : List Sq} {s : Sq} (h : ¬ AcOk W H L s) : acV W H L s = (0, 0, [], false) := by unfold acV; rw [dc_false h]; rfl
theorem acV_len (W H : Int) (L : List Sq) (s : Sq) : (acV W H L s).2.2.1.length ≤ 30 := by
  by_cases h : AcOk W H L s
  · rw [acV_yes h]; have := h.1.2.1; simp; omega
  · rw [acV_no h]; simp
theorem withClues_any (W H : Int) (A A2 : Option Addr) (n c n2 c2 : Nat) (w : World) :
    Calls Try.prog 52 #[.agg #[.int .i64 W, .int .i64 H, .slice A n c], .slice A2 n2 c2] w fun e w' => e = .returned (.agg #[.int .i64 W, .int .i64 H, .slice A2 n2 c2]) ∧ Below w.heap.size w w' := by
  go_enter Try.func52, Try.ntmps52
  go_wp2_with fail
  refine bodyPost_ret (v := .agg #[.int .i64 W, .int .i64 H, .slice A2 n2 c2]) (by simp [results, Try.results52, go_sem]) rfl ?_
  exact ⟨rfl, ((Below.refl _ _).alloc (Nat.le_refl _) _).alloc (by simp) _⟩
theorem pzWith_any (W H : Int) (A A2 : Option Addr) (n c n2 c2 : Nat) (w : World) :
    Calls Try.prog 47 #[.agg #[.int .i64 W, .int .i64 H, .slice A n c], .slice A2 n2 c2] w fun e w' => e = .returned (.agg #[.int .i64 W, .int .i64 H, .slice A2 n2 c2]) ∧ Below w.heap.size w w' := by
  go_enter Try.func47, Try.ntmps47
  go_wp2_with fail
  refine bodyPost_ret (v := .agg #[.int .i64 W, .int .i64 H, .slice A2 n2 c2]) (by simp [results, Try.results47, go_sem]) rfl ?_
  exact ⟨rfl, ((Below.refl _ _).alloc (Nat.le_refl _) _).alloc (by simp) _⟩
set_option maxRecDepth 100000 in
set_option maxHeartbeats 8000000 in
theorem implAc_any (W H : Int) (A : Option Addr) (n c : Nat) (L : List Sq) (s : Sq) (w : World) (hl : L.length = n) (hc : n ≤ c) (hn9 : n ≤ 1048576) (hA : A = none → c = 0) (hL : SqsAt w w.heap.size A L) :
    Calls Try.prog 27 #[.agg #[.int .i64 W, .int .i64 H, .slice A n c], .agg #[.int .i64 s.x, .int .i64 s.y, .int .i64 s.d]] w (RetPuzzle w (acV W H L s).1 (acV W H L s).2.1 (acV W H L s).2.2.1 (acV W H L s).2.2.2) := by
  obtain ⟨W1, hW1⟩ : ∃ W1, W1 = ((w.alloc (.cells #[.int .i64 W, .int .i64 H, .slice A n c] 35)).alloc (.cells #[.int .i64 s.x, .int .i64 s.y, .int .i64 s.d] 25)).alloc (.cells #[.int .i64 0, .int .i64 0, .slice none 0 0] 35) := ⟨_, rfl⟩
  have Z1 : AZ w W1 W H A n c s.x s.y s.d := by rw [hW1]; exact AZ.start w W H A n c s.x s.y s.d
  have hL1 := (hL.below Z1.bel).mono Z1.bel.size
  have hI := implIsPuz_any W H A n c L _ hl (by omega) hL1
  by_cases hP : GoodP W H L
  · have C0 := Lib.hid (callB_yes hI hP)
    by_cases h6 : n = 6
    · rw [acV_no (fun h => h.2.1 (by omega))]
      have q6 : ((n : Int) == 6) = true := by simp; omega
      subst h6
      clear hI hP hL hL1 hl
      go_enter Try.func27, Try.ntmps27
      go_wp2_with fail
      rw [← hW1]
      clear hW1
      (with_reducible refine C0.out.mono ?_)
      rintro e w2 ⟨rfl, hb⟩
      have Z2 := Z1.keep hb
      clear hb Z1 C0
      obtain ⟨pl, p0, p1, p2⟩ := id Z2.P
      obtain ⟨cl, c0, c1, c2⟩ := id Z2.C
      obtain ⟨rl, r0, r1, r2⟩ := id Z2.R
      have f0 := Z2.fz 0
      have f1 := Z2.fz 1
      have f2 := Z2.fz 2
      have hbf := Z2.bel
      go_wp2_with fail
      refine bodyPost_ret (v := .tuple #[.agg #[.int .i64 0, .int .i64 0, .slice none 0 0], .bool false]) (by simp [results, Try.results27, go_sem, r0, r1, r2]) rfl ?_
      exact RetPuzzle.none_ (((hbf.setCell (p := ⟨w.heap.size + 2, 0, none⟩) (by simp) _).setCell (p := ⟨w.heap.size + 2, 1, none⟩) (by simp) _).setCell (p := ⟨w.heap.size + 2, 2, none⟩) (by simp) _)
    · have q6 : ¬ (n : Int) = 6 := by omega
      have hN := hP.size
      have CC := fun V => implIsClue_any W H s V
      by_cases hC : ClueOk (W * H) s
      · have C1 := fun V => Lib.hid (callB_yes (CC V) ⟨hP.1, hC⟩)
        rw [acV_yes ⟨hP, by omega, hC⟩]
        have hn6 : n ≤ 6 := by have := hP.2.1; omega
        obtain ⟨i0, hi, hz0, hz1, hz2⟩ := info_parts infoCl
        have CH := Lib.hid C1
        have hLW : ∀ V, Below w.heap.size w V → SqsAt V V.heap.size A L := fun V hb => (hL.below hb).mono hb.size
        have HLW := Lib.hid hLW
        have HL := Lib.hid hl
        clear hI hP hL1 CC hC C1 hLW hL hN hl
        go_enter Try.func27, Try.ntmps27
        go_wp2_with fail
        rw [← hW1]
        clear hW1
        (with_reducible refine C0.out.mono ?_)
        rintro e w2 ⟨rfl, hb⟩
        have Z2 := Z1.keep hb
        clear hb Z1 C0
        obtain ⟨pl, p0, p1, p2⟩ := id Z2.P
        obtain ⟨cl, c0, c1, c2⟩ := id Z2.C
        go_wp2_with fail
        (with_reducible refine (CH.out w2).out.mono ?_)
        rintro e w3 ⟨rfl, hb⟩
        have Z3 := Z2.keep hb
        clear pl p0 p1 p2 cl c0 c1 c2
        clear hb Z2 CH
        obtain ⟨pl, p0, p1, p2⟩ := id Z3.P
        obtain ⟨cl, c0, c1, c2⟩ := id Z3.C
        have q7 : (n : Int) ≤ (c : Int) := by omega
        have q8 : (0 : Int) ≤ (n : Int) := by omega
        have HS : ∀ w', Below w3.heap.size w3 w' → w'.cell? ⟨w.heap.size, 0, none⟩ = some (.int .i64 W) ∧ w'.cell? ⟨w.heap.size, 1, none⟩ = some (.int .i64 H) ∧ w'.cell? ⟨w.heap.size, 2, none⟩ = some (.slice A n c) ∧ w'.cell? ⟨w.heap.size + 1, 0, none⟩ = some (.int .i64 s.x) ∧ w'.cell? ⟨w.heap.size + 1, 1, none⟩ = some (.int .i64 s.y) ∧ w'.cell? ⟨w.heap.size + 1, 2, none⟩ = some (.int .i64 s.d) := fun w' hb => ⟨(hb.cell (p := ⟨w.heap.size, 0, none⟩) pl).trans p0, (hb.cell (p := ⟨w.heap.size, 1, none⟩) pl).trans p1, (hb.cell (p := ⟨w.heap.size, 2, none⟩) pl).trans p2, (hb.cell (p := ⟨w.heap.size + 1, 0, none⟩) cl).trans c0, (hb.cell (p := ⟨w.heap.size + 1, 1, none⟩) cl).trans c1, (hb.cell (p := ⟨w.heap.size + 1, 2, none⟩) cl).trans c2⟩
        go_wp2_with fail
        refine wp_region_top 10 (fun w' => w'.cell? ⟨w.heap.size, 0, none⟩ = some (.int .i64 W) ∧ w'.cell? ⟨w.heap.size, 1, none⟩ = some (.int .i64 H) ∧ w'.cell? ⟨w.heap.size, 2, none⟩ = some (.slice A n c) ∧ w'.cell? ⟨w.heap.size + 1, 0, none⟩ = some (.int .i64 s.x) ∧ w'.cell? ⟨w.heap.size + 1, 1, none⟩ = some (.int .i64 s.y) ∧ w'.cell? ⟨w.heap.size + 1, 2, none⟩ = some (.int .i64 s.d)) (by kernel_rfl) (HS _ ((Below.refl _ _).drew)) (fun hHeld => ?_)
        refine wpTop.take 0 (v := ?_) rfl (by kernel_rfl) (by kernel_rfl) (by kernel_rfl) (by kernel_rfl) (fun _ _ _ h => h) (Or.inl ⟨by rfl, ?_⟩) (by assumption) ?_
        rotate_left
        · intro w hSw; (try dsimp only at hSw); go_simp; try (with_reducible rfl)
        try simp only [Act.put, List.getElem_toArray, List.getElem_cons_zero, List.getElem_cons_succ, List.setIfInBounds_toArray, List.set_cons_zero, List.set_cons_succ]
        refine wpTop.take 1 (v := ?_) rfl (by kernel_rfl) (by kernel_rfl) (by kernel_rfl) (by kernel_rfl) (fun _ _ _ h => h) (Or.inl ⟨by rfl, ?_⟩) (by assumption) ?_
        rotate_left
        · intro w hSw; (try dsimp only at hSw); go_simp; try (with_reducible rfl)
        try simp only [Act.put, List.getElem_toArray, List.getElem_cons_zero, List.getElem_cons_succ, List.setIfInBounds_toArray, List.set_cons_zero, List.set_cons_succ]
        refine wpTop.take 2 (v := ?_) rfl (by kernel_rfl) (by kernel_rfl) (by kernel_rfl) (by kernel_rfl) (fun _ _ _ h => h) (Or.inl ⟨by rfl, ?_⟩) (by assumption) ?_
        rotate_left
        · intro w hSw; (try dsimp only at hSw); go_simp; try (with_reducible rfl)
        try simp only [Act.put, List.getElem_toArray, List.getElem_cons_zero, List.getElem_cons_succ, List.setIfInBounds_toArray, List.set_cons_zero, List.set_cons_succ]
        refine wpTop.take 3 (v := ?_) rfl (by kernel_rfl) (by kernel_rfl) (by kernel_rfl) (by kernel_rfl) (fun _ _ _ h => h) (Or.inl ⟨by rfl, ?_⟩) (by assumption) ?_
        rotate_left
        · intro w hSw; (try dsimp only at hSw); go_simp; try (with_reducible rfl)
        try simp only [Act.put, List.getElem_toArray, List.getElem_cons_zero, List.getElem_cons_succ, List.setIfInBounds_toArray, List.set_cons_zero, List.set_cons_succ]
        refine wpTop.take 4 (v := ?_) rfl (by kernel_rfl) (by kernel_rfl) (by kernel_rfl) (by kernel_rfl) (fun _ _ _ h => h) (Or.inl ⟨by rfl, ?_⟩) (by assumption) ?_
        rotate_left
        · intro w hSw; (try dsimp only at hSw); go_simp; try (with_reducible rfl)
        try simp only [Act.put, List.getElem_toArray, List.getElem_cons_zero, List.getElem_cons_succ, List.setIfInBounds_toArray, List.set_cons_zero, List.set_cons_succ]
        refine wpTop.take 5 (v := ?_) rfl (by kernel_rfl) (by kernel_rfl) (by kernel_rfl) (by kernel_rfl) (fun _ _ _ h => h) (Or.inl ⟨by rfl, ?_⟩) (by assumption) ?_
        rotate_left
        · intro w hSw; (try dsimp only at hSw); go_simp; try (with_reducible rfl)
        try simp only [Act.put, List.getElem_toArray, List.getElem_cons_zero, List.getElem_cons_succ, List.setIfInBounds_toArray, List.set_cons_zero, List.set_cons_succ]
        refine wpTop.take 6 (v := ?_) rfl (by kernel_rfl) (by kernel_rfl) (by kernel_rfl) (by kernel_rfl) (fun _ _ _ h => h) (Or.inl ⟨by rfl, ?_⟩) (by assumption) ?_
        rotate_left
        · intro w hSw; (try dsimp only at hSw); go_simp; try (with_reducible rfl)
        try simp only [Act.put, List.getElem_toArray, List.getElem_cons_zero, List.getElem_cons_succ, List.setIfInBounds_toArray, List.set_cons_zero, List.set_cons_succ]
        have hd : Below w3.heap.size w3 w3.drew := (Below.refl _ _).drew
        refine wpTop.one 7 rfl (by kernel_rfl) (fun K hK => ?_)
        go_simp
        refine hK.out _ _ (fun _ => HS _ (hd.alloc hd.size _)) (fun hH => ?_)
        clear hK K
        have hHeld := hH (by decide)
        clear hH
        try simp only [Act.put, List.getElem_toArray, List.getElem_cons_zero, List.getElem_cons_succ, List.setIfInBounds_toArray, List.set_cons_zero, List.set_cons_succ]
        have hbA := hd.alloc hd.size (.cells #[.int .i64 s.x, .int .i64 s.y, .int .i64 s.d] 25)
        have hsq := HLW.out _ (Z3.bel.trans (hbA.mono Z3.bel.size))
        have hb1 : n + 1 ≤ maxLen := by unfold maxLen; omega
        have hb2 : (n + 1) * 24 ≤ 140737488355328 := by omega
        refine wpTop.one 8 rfl (by kernel_rfl) (fun K hK => ?_)
        refine grow_step rfl _ _ _ rfl 25 i0 (.agg #[.int .i64 0, .int .i64 0, .int .i64 0]) 3 24 Try.underlying33 hi hz0 hz1 hz2 rfl (by decide) A n n (flat L) rfl (fun h => by have := hA h; omega) (by rw [flat_len, HL.out]) (cells_sqs hsq) ⟨w3.drew.heap.size, 0, none⟩ 1 1 [.int .i64 s.x, .int .i64 s.y, .int .i64 s.d] rfl rfl (new3 _ _ _ _ _) (one3 _ _ _) (by omega) hb1 hb2 ?_
        intro v' w8 hown8 hgr8
        obtain ⟨A7, c7, rfl⟩ := own_val hown8
        have hb8 : Below w3.heap.size w3 w8 := hbA.grown hgr8 (by simp) (fun k hk => by cases hk)
        refine hK.out _ _ (fun _ => HS _ hb8) (fun hH => ?_)
        clear hK K
        have hHeld := hH (by decide)
        clear hH
        try simp only [Act.put, List.getElem_toArray, List.getElem_cons_zero, List.getElem_cons_succ, List.setIfInBounds_toArray, List.set_cons_zero, List.set_cons_succ]
        refine wpTop.one 9 rfl (by kernel_rfl) (fun K hK => ?_)
        go_simp
        (with_reducible refine (withClues_any _ _ _ _ _ _ _ _ _).mono ?_)
        rintro e w9 ⟨rfl, hb9⟩
        have hb10 := hb8.trans (hb9.mono hb8.size)
        refine hK.out _ _ (fun _ => HS _ hb10) (fun hH => ?_)
        clear hK K
        have hHeld := hH (by decide)
        clear hH
        try simp only [Act.put, List.getElem_toArray, List.getElem_cons_zero, List.getElem_cons_succ, List.setIfInBounds_toArray, List.set_cons_zero, List.set_cons_succ]
        have own9 := own_keep hown8 hb9
        have Z9 := Z3.keep hb10
        obtain ⟨rl, r0, r1, r2⟩ := id Z9.R
        have f0 := Z9.fz 0
        have f1 := Z9.fz 1
        have f2 := Z9.fz 2
        have hbf := Z9.bel
        have h2w : w.heap.size + 2 < w3.heap.size := Z3.R.lt
        refine wpTop.one 10 rfl (by kernel_rfl) (fun K hK => ?_)
        go_simp
        refine hK.out _ _ (fun h => absurd h (by decide)) (fun hH => ?_)
        clear hK K
        clear hH
        try simp only [Act.put, List.getElem_toArray, List.getElem_cons_zero, List.getElem_cons_succ, List.setIfInBounds_toArray, List.set_cons_zero, List.set_cons_succ]
        refine wpTop.one 11 rfl (by kernel_rfl) (fun K hK => ?_)
        go_simp
        refine hK.out _ _ (fun h => absurd h (by decide)) (fun hH => ?_)
        clear hK K
        clear hH
        try simp only [Act.put, List.getElem_toArray, List.getElem_cons_zero, List.getElem_cons_succ, List.setIfInBounds_toArray, List.set_cons_zero, List.set_cons_succ]
        refine wpTop.all (by kernel_rfl) ?_ _
        go_wp2_with fail
        refine bodyPost_ret (v := .tuple #[.agg #[.int .i64 W, .int .i64 H, .slice A7 (n + 1) c7], .bool true]) (by simp [results, Try.results27, go_sem, r0, r1, r2]) rfl ?_
        have hne : w.heap.size + 2 < w3.heap.size + 1 := by omega
        have o9 : w9.ownsRow (w3.heap.size + 1) 25 3 (.slice A7 (n + 1) c7) (n + 1) (flat L ++ [.int .i64 s.x, .int .i64 s.y, .int .i64 s.d]) := by simpa using own9
        have R1 := own_base (ownsRow_setCell_below (ownsRow_setCell_below (ownsRow_setCell_below o9 (a := ⟨w.heap.size + 2, 0, none⟩) hne (.int .i64 W)) (a := ⟨w.heap.size + 2, 1, none⟩) hne (.int .i64 H)) (a := ⟨w.heap.size + 2, 2, none⟩) hne (.slice A7 (n + 1) c7)) (show w.heap.size ≤ w3.heap.size + 1 by omega)
        exact RetPuzzle.mk (by simp [HL.out]) (by rw [flat_app]; exact R1) (((hbf.setCell (p := ⟨w.heap.size + 2, 0, none⟩) (by simp) _).setCell (p := ⟨w.heap.size + 2, 1, none⟩) (by simp) _).setCell (p := ⟨w.heap.size + 2, 2, none⟩) (by simp) _)
      · have C1 := Lib.hid (fun V => callB_no (CC V) (fun h => hC h.2))
        rw [acV_no (fun h => hC h.2.2)]
        clear hI hP hL hL1 CC hC hN hl
        go_enter Try.func27, Try.ntmps27
        go_wp2_with fail
        rw [← hW1]
        clear hW1
        (with_reducible refine C0.out.mono ?_)
        rintro e w2 ⟨rfl, hb⟩
        have Z2 := Z1.keep hb
        clear hb Z1 C0
        obtain ⟨pl, p0, p1, p2⟩ := id Z2.P
        obtain ⟨cl, c0, c1, c2⟩ := id Z2.C
        go_wp2_with fail
        (with_reducible refine (C1.out w2).mono ?_)
        rintro e w3 ⟨rfl, hb⟩
        have Z3 := Z2.keep hb
        clear pl p0 p1 p2 cl c0 c1 c2
        clear hb Z2 C1
        obtain ⟨pl, p0, p1, p2⟩ := id Z3.P
        obtain ⟨cl, c0, c1, c2⟩ := id Z3.C
        obtain ⟨rl, r0, r1, r2⟩ := id Z3.R
        have f0 := Z3.fz 0
        have f1 := Z3.fz 1
        have f2 := Z3.fz 2
        have hbf := Z3.bel
        go_wp2_with fail
        refine bodyPost_ret (v := .tuple #[.agg #[.int .i64 0, .int .i64 0, .slice none 0 0], .bool false]) (by simp [results, Try.results27, go_sem, r0, r1, r2]) rfl ?_
        exact RetPuzzle.none_ (((hbf.setCell (p := ⟨w.heap.size + 2, 0, none⟩) (by simp) _).setCell (p := ⟨w.heap.size + 2, 1, none⟩) (by simp) _).setCell (p := ⟨w.heap.size + 2, 2, none⟩) (by simp) _)
  · have C0 := Lib.hid (callB_no hI hP)
    rw [acV_no (fun h => hP h.1)]
    clear hI hP hL hL1 hl
    go_enter Try.func27, Try.ntmps27
    go_wp2_with fail
    rw [← hW1]
    clear hW1
    (with_reducible refine C0.out.mono ?_)
    rintro e w2 ⟨rfl, hb⟩
    have Z2 := Z1.keep hb
    clear hb Z1 C0
    obtain ⟨pl, p0, p1, p2⟩ := id Z2.P
    obtain ⟨cl, c0, c1, c2⟩ := id Z2.C
    obtain ⟨rl, r0, r1, r2⟩ := id Z2.R
    have f0 := Z2.fz 0
    have f1 := Z2.fz 1
    have f2 := Z2.fz 2
    have hbf := Z2.bel
    go_wp2_with fail
    refine bodyPost_ret (v := .tuple #[.agg #[.int .i64 0, .int .i64 0, .slice none 0 0], .bool false]) (by simp [results, Try.results27, go_sem, r0, r1, r2]) rfl ?_
    exact RetPuzzle.none_ (((hbf.setCell (p := ⟨w.heap.size + 2, 0, none⟩) (by simp) _).setCell (p := ⟨w.heap.size + 2, 1, none⟩) (by simp) _).setCell (p := ⟨w.heap.size + 2, 2, none⟩) (by simp) _)
end Go.Proofs.Ytpbghalljfcaoaa
