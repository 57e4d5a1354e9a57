/- A clue put behind the others: the model. -/
import Derived.Test.YtpbghalljfcaoaaPzAc
set_option linter.all false
namespace Go.Proofs.Ytpbghalljfcaoaa
open Go.RowKit

section
variable {P : Program} {ops : Array Oper} {Q : Exit → Act → World → Prop} {md : Region.Mode} {S : World → Prop}
/-- Two operations that may come. -/
theorem wpTop.two (i j : Nat) {n : Nat} {o o' : Oper} {f : Nat} {done : Array Bool} {a : Act} {w : World} (ho : ops[i]? = some o) (ho' : ops[j]? = some o') (hr : Region.ready md ops done = [i, j])
    (h : ∀ K' : Act → World → Prop, Shut (∀ a w, (i < n → S w) → ((i < n → S w) → wpTop P md ops Q S n f (done.setIfInBounds i true) a w) → K' a w) →
      if Region.wanted o (yielded ops a.tmps) = true then Oper.wp P o a w K' Q else K' (a.put o.dst undef) w)
    (h' : ∀ K' : Act → World → Prop, Shut (∀ a w, (j < n → S w) → ((j < n → S w) → wpTop P md ops Q S n f (done.setIfInBounds j true) a w) → K' a w) →
      if Region.wanted o' (yielded ops a.tmps) = true then Oper.wp P o' a w K' Q else K' (a.put o'.dst undef) w) : wpTop P md ops Q S n (f + 1) done a w := by
  refine ⟨fun e => (by rw [hr] at e; cases e), fun k hk => ?_⟩
  rw [hr] at hk
  rcases List.mem_cons.1 hk with rfl | hk
  · exact wpOp_step ho fun K' hK => h K' fun a w hS hW => hK a w ⟨hS, hW hS⟩
  · obtain rfl := List.mem_singleton.1 hk
    exact wpOp_step ho' fun K' hK => h' K' fun a w hS hW => hK a w ⟨hS, hW hS⟩
end
theorem lit_at3 (w2 X : World) (b : Nat) (hb : X.heap.size = b) (h : w2.heap.size ≤ b) : (X.alloc (.cells #[] 25)).ownsRow w2.heap.size 25 3 (.slice (some ⟨b, 0, none⟩) 0 0) 0 [] := by
  subst hb
  exact own_base (World.ownsRow_lit X #[] 0 (Nat.le_refl _) (Nat.zero_le _) rfl) h
theorem src_sqs {w : World} {B : Nat} {A : Option Addr} {L : List Sq} {n c : Nat} (h : SqsAt w B A L) (hl : L.length = n) (hc : n ≤ c) (hA : A = none → c = 0) : Src w A n c (flat L) := by
  cases A with
  | none =>
    have := hA rfl
    have hn : L = [] := List.eq_nil_of_length_eq_zero (by omega)
    subst hn
    exact .inl ⟨rfl, by omega, by omega, rfl⟩
  | some b => exact .inr ⟨b, rfl, cells_sqs h b rfl⟩
theorem ac_end {w w3 w9 : World} {W H : Int} {n c7 : Nat} {A7 : Option Addr} {L : List Sq} {s : Sq} (hl : L.length = n) (hne : w.heap.size + 2 < w3.heap.size) (o9 : w9.ownsRow w3.heap.size 25 3 (.slice A7 (n + 1) c7) (n + 1) (flat L ++ [.int .i64 s.x, .int .i64 s.y, .int .i64 s.d])) (hbf : Below w.heap.size w w9) :
    RetPuzzle w W H (L ++ [s]) true (.returned (.tuple #[.agg #[.int .i64 W, .int .i64 H, .slice A7 (n + 1) c7], .bool true])) (((w9.setCell ⟨w.heap.size + 2, 0, none⟩ (.int .i64 W)).setCell ⟨w.heap.size + 2, 1, none⟩ (.int .i64 H)).setCell ⟨w.heap.size + 2, 2, none⟩ (.slice A7 (n + 1) c7)) := by
  have R1 := own_base (ownsRow_setCell_below (ownsRow_setCell_below (ownsRow_setCell_below o9 (a := ⟨w.heap.size + 2, 0, none⟩) hne (.int .i64 W)) (a := ⟨w.heap.size + 2, 1, none⟩) hne (.int .i64 H)) (a := ⟨w.heap.size + 2, 2, none⟩) hne (.slice A7 (n + 1) c7)) (show w.heap.size ≤ w3.heap.size by omega)
  exact RetPuzzle.mk (by simp [hl]) (by rw [flat_app]; exact R1) (((hbf.setCell (p := ⟨w.heap.size + 2, 0, none⟩) (by simp) _).setCell (p := ⟨w.heap.size + 2, 1, none⟩) (by simp) _).setCell (p := ⟨w.heap.size + 2, 2, none⟩) (by simp) _)
/-- A row in another block than the one that grows stays. -/
theorem new3g {W w6 : World} {a b d : Value} {b0 : Nat} {row : Option Nat} (hg : W.grownBy w6 row) (hne : row ≠ some b0) (hW : ∀ j u, [a, b, d][j]? = some u → W.cell? ((⟨b0, 0, none⟩ : Addr).add j) = some u) : ∀ j u, [a, b, d][j]? = some u → w6.cell? ((⟨b0, 0, none⟩ : Addr).add j) = some u := fun j u hj => by
  have h := hW j u hj
  rw [add_at] at h ⊢
  exact hg.cell h (fun e => hne e.symm)
theorem new3k {W : World} {a b d : Value} {b0 : Nat} (o : Obj) (hb : b0 < W.heap.size) (hW : ∀ j u, [a, b, d][j]? = some u → W.cell? ((⟨b0, 0, none⟩ : Addr).add j) = some u) : ∀ j u, [a, b, d][j]? = some u → (W.alloc o).cell? ((⟨b0, 0, none⟩ : Addr).add j) = some u := fun j u hj => by
  have h := hW j u hj
  rw [add_at] at h ⊢
  exact (((Below.refl _ W).alloc (Nat.le_refl _) o).cell (p := ⟨b0, 0 + j, none⟩) hb).trans h
set_option maxRecDepth 100000 in
set_option maxHeartbeats 8000000 in
theorem specAc_any (W H : Int) (A : Option Addr) (n c : Nat) (L : List Sq) (s : Sq) (w : World) (hl : L.length = n) (hc : n ≤ c) (hn9 : n ≤ 1048576) (hA : A = none → c = 0) (hL : SqsAt w w.heap.size A L) :
    Calls Try.prog 26 #[.agg #[.int .i64 W, .int .i64 H, .slice A n c], .agg #[.int .i64 s.x, .int .i64 s.y, .int .i64 s.d]] w (RetPuzzle w (acV W H L s).1 (acV W H L s).2.1 (acV W H L s).2.2.1 (acV W H L s).2.2.2) := by
  obtain ⟨W1, hW1⟩ : ∃ W1, W1 = ((w.alloc (.cells #[.int .i64 W, .int .i64 H, .slice A n c] 35)).alloc (.cells #[.int .i64 s.x, .int .i64 s.y, .int .i64 s.d] 25)).alloc (.cells #[.int .i64 0, .int .i64 0, .slice none 0 0] 35) := ⟨_, rfl⟩
  have Z1 : AZ w W1 W H A n c s.x s.y s.d := by rw [hW1]; exact AZ.start w W H A n c s.x s.y s.d
  have hL1 := (hL.below Z1.bel).mono Z1.bel.size
  have hI := pzGood_any W H A n c L _ hl (by omega) hL1
  by_cases hP : GoodP W H L
  · have C0 := Lib.hid (callB_yes hI hP)
    have hN := hP.size
    have CC := fun V => pzClue_any W H (by omega) s V
    by_cases hC : ClueOk (W * H) s
    · have C1 := Lib.hid (fun V => callB_yes (CC V) hC)
      by_cases h6 : n = 6
      · rw [acV_no (fun h => h.2.1 (by omega))]
        have q6 : ((n : Int) == 6) = true := by simp; omega
        subst h6
        clear hI hP hL hL1 hl CC hC hN
        go_enter Try.func26, Try.ntmps26
        go_wp2_with fail
        rw [← hW1]
        clear hW1
        (with_reducible refine C0.out.mono ?_)
        rintro e w2 ⟨rfl, hb⟩
        have Z2 := Z1.keep hb
        clear hb Z1 C0
        obtain ⟨pl, p0, p1, p2⟩ := id Z2.P
        obtain ⟨cl, c0, c1, c2⟩ := id Z2.C
        go_wp2_with fail
        (with_reducible refine (C1.out w2).mono ?_)
        rintro e w3 ⟨rfl, hb⟩
        have Z3 := Z2.keep hb
        clear pl p0 p1 p2 cl c0 c1 c2
        clear hb Z2 C1
        obtain ⟨pl, p0, p1, p2⟩ := id Z3.P
        obtain ⟨cl, c0, c1, c2⟩ := id Z3.C
        obtain ⟨rl, r0, r1, r2⟩ := id Z3.R
        have f0 := Z3.fz 0
        have f1 := Z3.fz 1
        have f2 := Z3.fz 2
        have hbf := Z3.bel
        go_wp2_with fail
        refine bodyPost_ret (v := .tuple #[.agg #[.int .i64 0, .int .i64 0, .slice none 0 0], .bool false]) (by simp [results, Try.results26, go_sem, r0, r1, r2]) rfl ?_
        exact RetPuzzle.none_ (((hbf.setCell (p := ⟨w.heap.size + 2, 0, none⟩) (by simp) _).setCell (p := ⟨w.heap.size + 2, 1, none⟩) (by simp) _).setCell (p := ⟨w.heap.size + 2, 2, none⟩) (by simp) _)
      · rw [acV_yes ⟨hP, by omega, hC⟩]
        have q6 : ¬ (n : Int) = 6 := by omega
        have hn6 : n ≤ 6 := by have := hP.2.1; omega
        obtain ⟨i0, hi, hz0, hz1, hz2⟩ := info_parts infoCl
        have hLW : ∀ V, Below w.heap.size w V → SqsAt V V.heap.size A L := fun V hb => (hL.below hb).mono hb.size
        have HLW := Lib.hid hLW
        have HL := Lib.hid hl
        have hc1 : n + 1 ≤ maxLen := by unfold maxLen; omega
        have hc2 : (n + 1) * 24 ≤ 140737488355328 := by omega
        have hc3 : 0 + n ≤ maxLen := by unfold maxLen; omega
        have hc4 : (0 + n) * 24 ≤ 140737488355328 := by omega
        clear hI hP hL1 CC hC hLW hL hN hl
        go_enter Try.func26, Try.ntmps26
        go_wp2_with fail
        rw [← hW1]
        clear hW1
        (with_reducible refine C0.out.mono ?_)
        rintro e w2 ⟨rfl, hb⟩
        have Z2 := Z1.keep hb
        clear hb Z1 C0
        obtain ⟨pl, p0, p1, p2⟩ := id Z2.P
        obtain ⟨cl, c0, c1, c2⟩ := id Z2.C
        go_wp2_with fail
        (with_reducible refine (C1.out w2).mono ?_)
        rintro e w3 ⟨rfl, hb⟩
        have Z3 := Z2.keep hb
        clear pl p0 p1 p2 cl c0 c1 c2
        clear hb Z2 C1
        obtain ⟨pl, p0, p1, p2⟩ := id Z3.P
        obtain ⟨cl, c0, c1, c2⟩ := id Z3.C
        have HS : ∀ w', Below w3.heap.size w3 w' → w'.cell? ⟨w.heap.size, 0, none⟩ = some (.int .i64 W) ∧ w'.cell? ⟨w.heap.size, 1, none⟩ = some (.int .i64 H) ∧ w'.cell? ⟨w.heap.size, 2, none⟩ = some (.slice A n c) ∧ w'.cell? ⟨w.heap.size + 1, 0, none⟩ = some (.int .i64 s.x) ∧ w'.cell? ⟨w.heap.size + 1, 1, none⟩ = some (.int .i64 s.y) ∧ w'.cell? ⟨w.heap.size + 1, 2, none⟩ = some (.int .i64 s.d) := fun w' hb => ⟨(hb.cell (p := ⟨w.heap.size, 0, none⟩) pl).trans p0, (hb.cell (p := ⟨w.heap.size, 1, none⟩) pl).trans p1, (hb.cell (p := ⟨w.heap.size, 2, none⟩) pl).trans p2, (hb.cell (p := ⟨w.heap.size + 1, 0, none⟩) cl).trans c0, (hb.cell (p := ⟨w.heap.size + 1, 1, none⟩) cl).trans c1, (hb.cell (p := ⟨w.heap.size + 1, 2, none⟩) cl).trans c2⟩
        go_wp2_with fail
        refine wp_region_top 9 (fun w' => w'.cell? ⟨w.heap.size, 0, none⟩ = some (.int .i64 W) ∧ w'.cell? ⟨w.heap.size, 1, none⟩ = some (.int .i64 H) ∧ w'.cell? ⟨w.heap.size, 2, none⟩ = some (.slice A n c) ∧ w'.cell? ⟨w.heap.size + 1, 0, none⟩ = some (.int .i64 s.x) ∧ w'.cell? ⟨w.heap.size + 1, 1, none⟩ = some (.int .i64 s.y) ∧ w'.cell? ⟨w.heap.size + 1, 2, none⟩ = some (.int .i64 s.d)) (by kernel_rfl) (HS _ ((Below.refl _ _).drew)) (fun hHeld => ?_)
        refine wpTop.take 0 (v := ?_) rfl (by kernel_rfl) (by kernel_rfl) (by kernel_rfl) (by kernel_rfl) (fun _ _ _ h => h) (Or.inl ⟨by rfl, ?_⟩) (by assumption) ?_
        rotate_left
        · intro w hSw; (try dsimp only at hSw); go_simp; try (with_reducible rfl)
        try simp only [Act.put, List.getElem_toArray, List.getElem_cons_zero, List.getElem_cons_succ, List.setIfInBounds_toArray, List.set_cons_zero, List.set_cons_succ]
        refine wpTop.take 2 (v := ?_) rfl (by kernel_rfl) (by kernel_rfl) (by kernel_rfl) (by kernel_rfl) (fun _ _ _ h => h) (Or.inl ⟨by rfl, ?_⟩) (by assumption) ?_
        rotate_left
        · intro w hSw; (try dsimp only at hSw); go_simp; try (with_reducible rfl)
        try simp only [Act.put, List.getElem_toArray, List.getElem_cons_zero, List.getElem_cons_succ, List.setIfInBounds_toArray, List.set_cons_zero, List.set_cons_succ]
        refine wpTop.take 3 (v := ?_) rfl (by kernel_rfl) (by kernel_rfl) (by kernel_rfl) (by kernel_rfl) (fun _ _ _ h => h) (Or.inl ⟨by rfl, ?_⟩) (by assumption) ?_
        rotate_left
        · intro w hSw; (try dsimp only at hSw); go_simp; try (with_reducible rfl)
        try simp only [Act.put, List.getElem_toArray, List.getElem_cons_zero, List.getElem_cons_succ, List.setIfInBounds_toArray, List.set_cons_zero, List.set_cons_succ]
        refine wpTop.take 5 (v := ?_) rfl (by kernel_rfl) (by kernel_rfl) (by kernel_rfl) (by kernel_rfl) (fun _ _ _ h => h) (Or.inl ⟨by rfl, ?_⟩) (by assumption) ?_
        rotate_left
        · intro w hSw; (try dsimp only at hSw); go_simp; try (with_reducible rfl)
        try simp only [Act.put, List.getElem_toArray, List.getElem_cons_zero, List.getElem_cons_succ, List.setIfInBounds_toArray, List.set_cons_zero, List.set_cons_succ]
        have hd : Below w3.heap.size w3 w3.drew := (Below.refl _ _).drew
        refine wpTop.two 1 6 rfl rfl (by kernel_rfl) (fun K hK => ?_) (fun K hK => ?_)
        · go_simp
          refine hK.out _ _ (fun _ => HS _ (hd.alloc hd.size _)) (fun hH => ?_)
          clear hK K
          have hHeld := hH (by decide)
          clear hH
          try simp only [Act.put, List.getElem_toArray, List.getElem_cons_zero, List.getElem_cons_succ, List.setIfInBounds_toArray, List.set_cons_zero, List.set_cons_succ]
          have hbA := hd.alloc hd.size (.cells #[] 25)
          refine wpTop.two 4 6 rfl rfl (by kernel_rfl) (fun K hK => ?_) (fun K hK => ?_)
          · refine app_step rfl _ _ _ rfl w3.heap.size 25 i0 (.agg #[.int .i64 0, .int .i64 0, .int .i64 0]) 3 24 Try.underlying33 hi hz0 hz1 hz2 rfl (by decide) (.slice (some ⟨_, 0, none⟩) 0 0) 0 [] rfl (lit_at3 w3 w3.drew _ (by simp) (by simp)) A n c (flat L) rfl (by rw [flat_len, HL.out]) (src_sqs (HLW.out _ (Z3.bel.trans ((hbA).mono Z3.bel.size))) HL.out hc hA) (flat_one _) hc3 hc4 (hbA).size ?_
            intro v6 w6 hown6 hgr6 _
            rw [Nat.zero_add, List.nil_append] at hown6
            obtain ⟨A6, c6, rfl⟩ := own_val hown6
            have hb6 : Below w3.heap.size w3 w6 := (hbA).grown hgr6 (hbA).size (fun k hk => by simp [Value.ownBlock] at hk; omega)
            refine hK.out _ _ (fun _ => HS _ hb6) (fun hH => ?_)
            clear hK K
            have hHeld := hH (by decide)
            clear hH
            try simp only [Act.put, List.getElem_toArray, List.getElem_cons_zero, List.getElem_cons_succ, List.setIfInBounds_toArray, List.set_cons_zero, List.set_cons_succ]
            refine wpTop.one 6 rfl (by kernel_rfl) (fun K hK => ?_)
            go_simp
            refine hK.out _ _ (fun _ => HS _ (hb6.alloc hb6.size _)) (fun hH => ?_)
            clear hK K
            have hHeld := hH (by decide)
            clear hH
            try simp only [Act.put, List.getElem_toArray, List.getElem_cons_zero, List.getElem_cons_succ, List.setIfInBounds_toArray, List.set_cons_zero, List.set_cons_succ]
            have hb7 := hb6.alloc hb6.size (.cells #[.int .i64 s.x, .int .i64 s.y, .int .i64 s.d] 25)
            refine wpTop.one 7 rfl (by kernel_rfl) (fun K hK => ?_)
            refine app_step rfl _ _ _ rfl w3.heap.size 25 i0 (.agg #[.int .i64 0, .int .i64 0, .int .i64 0]) 3 24 Try.underlying33 hi hz0 hz1 hz2 rfl (by decide) (.slice A6 n c6) n (flat L) rfl (hown6.alloc _) (some ⟨w6.heap.size, 0, none⟩) 1 1 [.int .i64 s.x, .int .i64 s.y, .int .i64 s.d] rfl rfl (.inr ⟨_, rfl, new3 _ _ _ _ _⟩) (one3 _ _ _) hc1 hc2 (hb7).size ?_
            intro v7 w8 hown8 hgr8 _
            obtain ⟨A7, c7, rfl⟩ := own_val hown8
            have hb8 : Below w3.heap.size w3 w8 := (hb7).grown hgr8 (hb7).size (fun k hk => (hown6.lt k hk).1)
            refine hK.out _ _ (fun _ => HS _ hb8) (fun hH => ?_)
            clear hK K
            have hHeld := hH (by decide)
            clear hH
            try simp only [Act.put, List.getElem_toArray, List.getElem_cons_zero, List.getElem_cons_succ, List.setIfInBounds_toArray, List.set_cons_zero, List.set_cons_succ]
            refine wpTop.one 8 rfl (by kernel_rfl) (fun K hK => ?_)
            go_simp
            (with_reducible refine (pzWith_any _ _ _ _ _ _ _ _ _).mono ?_)
            rintro e w9 ⟨rfl, hb9⟩
            have hb10 := hb8.trans (hb9.mono hb8.size)
            refine hK.out _ _ (fun _ => HS _ hb10) (fun hH => ?_)
            clear hK K
            have hHeld := hH (by decide)
            clear hH
            try simp only [Act.put, List.getElem_toArray, List.getElem_cons_zero, List.getElem_cons_succ, List.setIfInBounds_toArray, List.set_cons_zero, List.set_cons_succ]
            have own9 := own_keep hown8 hb9
            have Z9 := Z3.keep hb10
            obtain ⟨rl, r0, r1, r2⟩ := id Z9.R
            have f0 := Z9.fz 0
            have f1 := Z9.fz 1
            have f2 := Z9.fz 2
            have hbf := Z9.bel
            have h2w : w.heap.size + 2 < w3.heap.size := Z3.R.lt
            refine wpTop.one 9 rfl (by kernel_rfl) (fun K hK => ?_)
            go_simp
            refine hK.out _ _ (fun h => absurd h (by decide)) (fun hH => ?_)
            clear hK K
            clear hH
            try simp only [Act.put, List.getElem_toArray, List.getElem_cons_zero, List.getElem_cons_succ, List.setIfInBounds_toArray, List.set_cons_zero, List.set_cons_succ]
            refine wpTop.one 10 rfl (by kernel_rfl) (fun K hK => ?_)
            go_simp
            refine hK.out _ _ (fun h => absurd h (by decide)) (fun hH => ?_)
            clear hK K
            clear hH
            try simp only [Act.put, List.getElem_toArray, List.getElem_cons_zero, List.getElem_cons_succ, List.setIfInBounds_toArray, List.set_cons_zero, List.set_cons_succ]
            refine wpTop.all (by kernel_rfl) ?_ _
            go_wp2_with fail
            refine bodyPost_ret (v := .tuple #[.agg #[.int .i64 W, .int .i64 H, .slice A7 (n + 1) c7], .bool true]) (by simp [results, Try.results26, go_sem, r0, r1, r2]) rfl ?_
            exact ac_end HL.out h2w own9 hbf
          · go_simp
            refine hK.out _ _ (fun _ => HS _ (hbA.alloc hbA.size _)) (fun hH => ?_)
            clear hK K
            have hHeld := hH (by decide)
            clear hH
            try simp only [Act.put, List.getElem_toArray, List.getElem_cons_zero, List.getElem_cons_succ, List.setIfInBounds_toArray, List.set_cons_zero, List.set_cons_succ]
            have hbB := hbA.alloc hbA.size (.cells #[.int .i64 s.x, .int .i64 s.y, .int .i64 s.d] 25)
            refine wpTop.one 4 rfl (by kernel_rfl) (fun K hK => ?_)
            refine app_step rfl _ _ _ rfl w3.heap.size 25 i0 (.agg #[.int .i64 0, .int .i64 0, .int .i64 0]) 3 24 Try.underlying33 hi hz0 hz1 hz2 rfl (by decide) (.slice (some ⟨_, 0, none⟩) 0 0) 0 [] rfl ((lit_at3 w3 w3.drew _ (by simp) (by simp)).alloc _) A n c (flat L) rfl (by rw [flat_len, HL.out]) (src_sqs (HLW.out _ (Z3.bel.trans ((hbB).mono Z3.bel.size))) HL.out hc hA) (flat_one _) hc3 hc4 (hbB).size ?_
            intro v6 w6 hown6 hgr6 _
            rw [Nat.zero_add, List.nil_append] at hown6
            obtain ⟨A6, c6, rfl⟩ := own_val hown6
            have hb6 : Below w3.heap.size w3 w6 := (hbB).grown hgr6 (hbB).size (fun k hk => by simp [Value.ownBlock] at hk; omega)
            refine hK.out _ _ (fun _ => HS _ hb6) (fun hH => ?_)
            clear hK K
            have hHeld := hH (by decide)
            clear hH
            try simp only [Act.put, List.getElem_toArray, List.getElem_cons_zero, List.getElem_cons_succ, List.setIfInBounds_toArray, List.set_cons_zero, List.set_cons_succ]
            refine wpTop.one 7 rfl (by kernel_rfl) (fun K hK => ?_)
            refine app_step rfl _ _ _ rfl w3.heap.size 25 i0 (.agg #[.int .i64 0, .int .i64 0, .int .i64 0]) 3 24 Try.underlying33 hi hz0 hz1 hz2 rfl (by decide) (.slice A6 n c6) n (flat L) rfl (hown6) (some ⟨_, 0, none⟩) 1 1 [.int .i64 s.x, .int .i64 s.y, .int .i64 s.d] rfl rfl (.inr ⟨_, rfl, new3g hgr6 (by simp [Value.ownBlock]) (by intro j u hj; match j, hj with | 0, hj => (simp at hj; subst hj; simp [Addr.add]) | 1, hj => (simp at hj; subst hj; simp [Addr.add]) | 2, hj => (simp at hj; subst hj; simp [Addr.add]))⟩) (one3 _ _ _) hc1 hc2 (hb6).size ?_
            intro v7 w8 hown8 hgr8 _
            obtain ⟨A7, c7, rfl⟩ := own_val hown8
            have hb8 : Below w3.heap.size w3 w8 := (hb6).grown hgr8 (hb6).size (fun k hk => (hown6.lt k hk).1)
            refine hK.out _ _ (fun _ => HS _ hb8) (fun hH => ?_)
            clear hK K
            have hHeld := hH (by decide)
            clear hH
            try simp only [Act.put, List.getElem_toArray, List.getElem_cons_zero, List.getElem_cons_succ, List.setIfInBounds_toArray, List.set_cons_zero, List.set_cons_succ]
            refine wpTop.one 8 rfl (by kernel_rfl) (fun K hK => ?_)
            go_simp
            (with_reducible refine (pzWith_any _ _ _ _ _ _ _ _ _).mono ?_)
            rintro e w9 ⟨rfl, hb9⟩
            have hb10 := hb8.trans (hb9.mono hb8.size)
            refine hK.out _ _ (fun _ => HS _ hb10) (fun hH => ?_)
            clear hK K
            have hHeld := hH (by decide)
            clear hH
            try simp only [Act.put, List.getElem_toArray, List.getElem_cons_zero, List.getElem_cons_succ, List.setIfInBounds_toArray, List.set_cons_zero, List.set_cons_succ]
            have own9 := own_keep hown8 hb9
            have Z9 := Z3.keep hb10
            obtain ⟨rl, r0, r1, r2⟩ := id Z9.R
            have f0 := Z9.fz 0
            have f1 := Z9.fz 1
            have f2 := Z9.fz 2
            have hbf := Z9.bel
            have h2w : w.heap.size + 2 < w3.heap.size := Z3.R.lt
            refine wpTop.one 9 rfl (by kernel_rfl) (fun K hK => ?_)
            go_simp
            refine hK.out _ _ (fun h => absurd h (by decide)) (fun hH => ?_)
            clear hK K
            clear hH
            try simp only [Act.put, List.getElem_toArray, List.getElem_cons_zero, List.getElem_cons_succ, List.setIfInBounds_toArray, List.set_cons_zero, List.set_cons_succ]
            refine wpTop.one 10 rfl (by kernel_rfl) (fun K hK => ?_)
            go_simp
            refine hK.out _ _ (fun h => absurd h (by decide)) (fun hH => ?_)
            clear hK K
            clear hH
            try simp only [Act.put, List.getElem_toArray, List.getElem_cons_zero, List.getElem_cons_succ, List.setIfInBounds_toArray, List.set_cons_zero, List.set_cons_succ]
            refine wpTop.all (by kernel_rfl) ?_ _
            go_wp2_with fail
            refine bodyPost_ret (v := .tuple #[.agg #[.int .i64 W, .int .i64 H, .slice A7 (n + 1) c7], .bool true]) (by simp [results, Try.results26, go_sem, r0, r1, r2]) rfl ?_
            exact ac_end HL.out h2w own9 hbf
        · go_simp
          refine hK.out _ _ (fun _ => HS _ (hd.alloc hd.size _)) (fun hH => ?_)
          clear hK K
          have hHeld := hH (by decide)
          clear hH
          try simp only [Act.put, List.getElem_toArray, List.getElem_cons_zero, List.getElem_cons_succ, List.setIfInBounds_toArray, List.set_cons_zero, List.set_cons_succ]
          have hbA := hd.alloc hd.size (.cells #[.int .i64 s.x, .int .i64 s.y, .int .i64 s.d] 25)
          refine wpTop.one 1 rfl (by kernel_rfl) (fun K hK => ?_)
          go_simp
          refine hK.out _ _ (fun _ => HS _ (hbA.alloc hbA.size _)) (fun hH => ?_)
          clear hK K
          have hHeld := hH (by decide)
          clear hH
          try simp only [Act.put, List.getElem_toArray, List.getElem_cons_zero, List.getElem_cons_succ, List.setIfInBounds_toArray, List.set_cons_zero, List.set_cons_succ]
          have hbB := hbA.alloc hbA.size (.cells #[] 25)
          refine wpTop.one 4 rfl (by kernel_rfl) (fun K hK => ?_)
          refine app_step rfl _ _ _ rfl w3.heap.size 25 i0 (.agg #[.int .i64 0, .int .i64 0, .int .i64 0]) 3 24 Try.underlying33 hi hz0 hz1 hz2 rfl (by decide) (.slice (some ⟨_, 0, none⟩) 0 0) 0 [] rfl (lit_at3 w3 (w3.drew.alloc (.cells #[.int .i64 s.x, .int .i64 s.y, .int .i64 s.d] 25)) _ (by simp) (by simp)) A n c (flat L) rfl (by rw [flat_len, HL.out]) (src_sqs (HLW.out _ (Z3.bel.trans ((hbB).mono Z3.bel.size))) HL.out hc hA) (flat_one _) hc3 hc4 (hbB).size ?_
          intro v6 w6 hown6 hgr6 _
          rw [Nat.zero_add, List.nil_append] at hown6
          obtain ⟨A6, c6, rfl⟩ := own_val hown6
          have hb6 : Below w3.heap.size w3 w6 := (hbB).grown hgr6 (hbB).size (fun k hk => by simp [Value.ownBlock] at hk; omega)
          refine hK.out _ _ (fun _ => HS _ hb6) (fun hH => ?_)
          clear hK K
          have hHeld := hH (by decide)
          clear hH
          try simp only [Act.put, List.getElem_toArray, List.getElem_cons_zero, List.getElem_cons_succ, List.setIfInBounds_toArray, List.set_cons_zero, List.set_cons_succ]
          refine wpTop.one 7 rfl (by kernel_rfl) (fun K hK => ?_)
          refine app_step rfl _ _ _ rfl w3.heap.size 25 i0 (.agg #[.int .i64 0, .int .i64 0, .int .i64 0]) 3 24 Try.underlying33 hi hz0 hz1 hz2 rfl (by decide) (.slice A6 n c6) n (flat L) rfl (hown6) (some ⟨_, 0, none⟩) 1 1 [.int .i64 s.x, .int .i64 s.y, .int .i64 s.d] rfl rfl (.inr ⟨_, rfl, new3g hgr6 (by simp [Value.ownBlock]) (new3k _ (by simp) (new3 _ _ _ _ _))⟩) (one3 _ _ _) hc1 hc2 (hb6).size ?_
          intro v7 w8 hown8 hgr8 _
          obtain ⟨A7, c7, rfl⟩ := own_val hown8
          have hb8 : Below w3.heap.size w3 w8 := (hb6).grown hgr8 (hb6).size (fun k hk => (hown6.lt k hk).1)
          refine hK.out _ _ (fun _ => HS _ hb8) (fun hH => ?_)
          clear hK K
          have hHeld := hH (by decide)
          clear hH
          try simp only [Act.put, List.getElem_toArray, List.getElem_cons_zero, List.getElem_cons_succ, List.setIfInBounds_toArray, List.set_cons_zero, List.set_cons_succ]
          refine wpTop.one 8 rfl (by kernel_rfl) (fun K hK => ?_)
          go_simp
          (with_reducible refine (pzWith_any _ _ _ _ _ _ _ _ _).mono ?_)
          rintro e w9 ⟨rfl, hb9⟩
          have hb10 := hb8.trans (hb9.mono hb8.size)
          refine hK.out _ _ (fun _ => HS _ hb10) (fun hH => ?_)
          clear hK K
          have hHeld := hH (by decide)
          clear hH
          try simp only [Act.put, List.getElem_toArray, List.getElem_cons_zero, List.getElem_cons_succ, List.setIfInBounds_toArray, List.set_cons_zero, List.set_cons_succ]
          have own9 := own_keep hown8 hb9
          have Z9 := Z3.keep hb10
          obtain ⟨rl, r0, r1, r2⟩ := id Z9.R
          have f0 := Z9.fz 0
          have f1 := Z9.fz 1
          have f2 := Z9.fz 2
          have hbf := Z9.bel
          have h2w : w.heap.size + 2 < w3.heap.size := Z3.R.lt
          refine wpTop.one 9 rfl (by kernel_rfl) (fun K hK => ?_)
          go_simp
          refine hK.out _ _ (fun h => absurd h (by decide)) (fun hH => ?_)
          clear hK K
          clear hH
          try simp only [Act.put, List.getElem_toArray, List.getElem_cons_zero, List.getElem_cons_succ, List.setIfInBounds_toArray, List.set_cons_zero, List.set_cons_succ]
          refine wpTop.one 10 rfl (by kernel_rfl) (fun K hK => ?_)
          go_simp
          refine hK.out _ _ (fun h => absurd h (by decide)) (fun hH => ?_)
          clear hK K
          clear hH
          try simp only [Act.put, List.getElem_toArray, List.getElem_cons_zero, List.getElem_cons_succ, List.setIfInBounds_toArray, List.set_cons_zero, List.set_cons_succ]
          refine wpTop.all (by kernel_rfl) ?_ _
          go_wp2_with fail
          refine bodyPost_ret (v := .tuple #[.agg #[.int .i64 W, .int .i64 H, .slice A7 (n + 1) c7], .bool true]) (by simp [results, Try.results26, go_sem, r0, r1, r2]) rfl ?_
          exact ac_end HL.out h2w own9 hbf
    · have C1 := Lib.hid (fun V => callB_no (CC V) hC)
      rw [acV_no (fun h => hC h.2.2)]
      clear hI hP hL hL1 CC hC hN hl
      go_enter Try.func26, Try.ntmps26
      go_wp2_with fail
      rw [← hW1]
      clear hW1
      (with_reducible refine C0.out.mono ?_)
      rintro e w2 ⟨rfl, hb⟩
      have Z2 := Z1.keep hb
      clear hb Z1 C0
      obtain ⟨pl, p0, p1, p2⟩ := id Z2.P
      obtain ⟨cl, c0, c1, c2⟩ := id Z2.C
      go_wp2_with fail
      (with_reducible refine (C1.out w2).mono ?_)
      rintro e w3 ⟨rfl, hb⟩
      have Z3 := Z2.keep hb
      clear pl p0 p1 p2 cl c0 c1 c2
      clear hb Z2 C1
      obtain ⟨pl, p0, p1, p2⟩ := id Z3.P
      obtain ⟨cl, c0, c1, c2⟩ := id Z3.C
      obtain ⟨rl, r0, r1, r2⟩ := id Z3.R
      have f0 := Z3.fz 0
      have f1 := Z3.fz 1
      have f2 := Z3.fz 2
      have hbf := Z3.bel
      go_wp2_with fail
      refine bodyPost_ret (v := .tuple #[.agg #[.int .i64 0, .int .i64 0, .slice none 0 0], .bool false]) (by simp [results, Try.results26, go_sem, r0, r1, r2]) rfl ?_
      exact RetPuzzle.none_ (((hbf.setCell (p := ⟨w.heap.size + 2, 0, none⟩) (by simp) _).setCell (p := ⟨w.heap.size + 2, 1, none⟩) (by simp) _).setCell (p := ⟨w.heap.size + 2, 2, none⟩) (by simp) _)
  · have C0 := Lib.hid (callB_no hI hP)
    rw [acV_no (fun h => hP h.1)]
    clear hI hP hL hL1 hl
    go_enter Try.func26, Try.ntmps26
    go_wp2_with fail
    rw [← hW1]
    clear hW1
    (with_reducible refine C0.out.mono ?_)
    rintro e w2 ⟨rfl, hb⟩
    have Z2 := Z1.keep hb
    clear hb Z1 C0
    obtain ⟨pl, p0, p1, p2⟩ := id Z2.P
    obtain ⟨cl, c0, c1, c2⟩ := id Z2.C
    obtain ⟨rl, r0, r1, r2⟩ := id Z2.R
    have f0 := Z2.fz 0
    have f1 := Z2.fz 1
    have f2 := Z2.fz 2
    have hbf := Z2.bel
    go_wp2_with fail
    refine bodyPost_ret (v := .tuple #[.agg #[.int .i64 0, .int .i64 0, .slice none 0 0], .bool false]) (by simp [results, Try.results26, go_sem, r0, r1, r2]) rfl ?_
    exact RetPuzzle.none_ (((hbf.setCell (p := ⟨w.heap.size + 2, 0, none⟩) (by simp) _).setCell (p := ⟨w.heap.size + 2, 1, none⟩) (by simp) _).setCell (p := ⟨w.heap.size + 2, 2, none⟩) (by simp) _)
end Go.Proofs.Ytpbghalljfcaoaa
