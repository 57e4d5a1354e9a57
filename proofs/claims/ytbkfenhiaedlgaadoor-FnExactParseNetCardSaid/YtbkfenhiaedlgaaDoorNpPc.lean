/- The model's reading of a net's text. -/
import Derived.Test.YtbkfenhiaedlgaaDoorNpPm
import Derived.Test.YtbkfenhiaedlgaaDoorSplW
import Derived.Test.YtbkfenhiaedlgaaDoorNetK
import Derived.Test.YtbkfenhiaedlgaaDoorPc
import Derived.Deep.DeepCutAuto
set_option linter.all false
namespace Go.Proofs.YtbkfenhiaedlgaaDoor
open Go.RowKit

/-- What neParse returns. -/
def RetNq (w : World) (l : List UInt8) (e : Ending) (w' : World) : Prop :=
  ∃ W A c, ∃ L : List Wi, ∃ ok : Bool, e = .returned (.tuple #[.agg #[.int .i64 W, .slice A L.length c], .bool ok]) ∧ w'.ownsRow w.heap.size 110 2 (.slice A L.length c) L.length (flatW L) ∧ Below w.heap.size w w' ∧
    (ok = true → NetG W L ∧ ntx W.toNat L = l) ∧ (ok = false → ∀ W L, NetG W L → ntx W.toNat L ≠ l)
set_option maxRecDepth 100000 in
/-- A net in its result's cell, and a bool. -/
theorem ret_ne {tmps : Array Value} {w : World} {B : Nat} {W : Int} {A : Option Addr} {n c : Nat} {b : Bool} (K : Nx B w W A n c) (hp : tmps.getD 2 undef = .pointer (some ⟨B, 0, none⟩)) (hu : tmps.getD 3 undef = .bool b) :
    (results Tryd.f77 tmps).run Tryd.prog w = .ok (.tuple #[.agg #[.int .i64 W, .slice A n c], .bool b]) w := by
  have c0 := K.c0
  have c1 := K.c1
  rw [results_cell_tmp rfl, hp, hu]
  simp [go_sem, c0, c1]
set_option maxRecDepth 100000 in
set_option maxHeartbeats 8000000 in
theorem neParse_any (l : List UInt8) (hl : l.length ≤ 1048576) (w : World) : Calls Tryd.prog 77 #[.string (bas l)] w (RetNq w l) := by
  have B0 : Below w.heap.size w (w.alloc (.cells #[.int .i64 0, .slice none 0 0] 51)) := (Below.refl _ _).alloc (Nat.le_refl _) _
  have K0 := Nx.start w 0 none 0 0 51
  have hsz := bas_size l
  have C1 := split_basW l 58 58 rfl (by omega) (w.alloc (.cells #[.int .i64 0, .slice none 0 0] 51))
  have hpl := spl_len 58 l
  have HTWO := Lib.hid (fun h => noN_of (candN_two (l := l) h))
  have HCLS := Lib.hid (fun h q (hl : spl 58 l = [h, q]) hq => noN_of (candN_wis hl hq))
  have HYES := Lib.hid (fun h q L (hl : spl 58 l = [h, q]) hq => candN_yes (L := L) hl hq)
  have HLONG : Hid (200 < l.length → ∀ N L, NetG N L → ntx N.toNat L ≠ l) := Lib.hid (fun h N L hG e => by have := ntx_200 hG; rw [e] at this; omega)
  obtain ⟨R0, hR0⟩ : ∃ R0, spl 58 l = R0 := ⟨_, rfl⟩
  rw [hR0] at C1 hpl
  have HR0 := Lib.hid hR0
  obtain ⟨S, hS⟩ : ∃ S, bas l = S := ⟨_, rfl⟩
  rw [hS] at hsz C1 ⊢
  have HS := Lib.hid hS
  have HC1 := Lib.hid C1
  clear C1 hS hR0
  by_cases hlen : 200 < l.length
  · have z1 : (200 : Int) < (S.size : Int) := by omega
    have HN := Lib.hid (HLONG.out hlen)
    go_enter Tryd.func77, Tryd.ntmps77
    go_wp2_with fail
    (with_reducible refine HC1.out.mono ?_)
    rintro e w2 ⟨A, c, rfl, ho, hb2⟩
    have K2 := K0.next hb2
    have F2 : ∀ o, w2.frozen? ⟨w.heap.size, o, none⟩ = false := fun o => (hb2.frozen (p := ⟨w.heap.size, o, none⟩) K0.lt).trans (by simp)
    have B2 := B0.trans (hb2.mono B0.size)
    obtain ⟨kl, k0, k1⟩ := id K2
    have f0 := F2 0
    have f1 := F2 1
    clear HC1 ho hb2
    go_wp2_with fail
    (try simp only [Exit.inBlock, Exit.then])
    refine bodyPost_ret (ret_ne (Nx.set2 ⟨kl, k0, k1⟩ 0 none 0 0) rfl rfl) rfl ?_
    exact ⟨0, none, 0, [], false, rfl, World.ownsRow_nil _ _ _ _, below_set2 B2 _ _, fun h => (by cases h), fun _ => HN.out⟩
  · have z1 : ¬ (200 : Int) < (S.size : Int) := by omega
    by_cases hp2 : R0.length = 2
    · obtain ⟨hh, q, rfl⟩ : ∃ hh q, R0 = [hh, q] := by
        match R0, hp2 with
        | [hh, q], _ => exact ⟨hh, q, rfl⟩
      have hqlen := hpl q (by simp)
      have HCL := Lib.hid (fun hq => HCLS.out hh q HR0.out hq)
      have HYE := Lib.hid (fun L hq => HYES.out hh q L HR0.out hq)
      clear HCLS HYES HTWO HLONG hp2
      go_enter Tryd.func77, Tryd.ntmps77
      go_wp2_with fail
      (with_reducible refine HC1.out.mono ?_)
      rintro e w2 ⟨A, c, rfl, ho, hb2⟩
      have K2 := K0.next hb2
      have F2 : ∀ o, w2.frozen? ⟨w.heap.size, o, none⟩ = false := fun o => (hb2.frozen (p := ⟨w.heap.size, o, none⟩) K0.lt).trans (by simp)
      have B2 := B0.trans (hb2.mono B0.size)
      obtain ⟨g, rfl⟩ := own_form ho (by simp)
      have hc0 := txs_at ho (j := 0) (t := hh) rfl
      simp only [List.length_cons, List.length_nil, Nat.zero_add, Nat.reduceAdd] at ho ⊢
      have hcap := own_cap ho
      have hlt := own_lt ho
      have CA := Lib.hid (fun V => read_bas hh V)
      have CF := Lib.hid (fun V => split_basW q 44 44 rfl (by omega) V)
      clear HC1 K0 B0 hb2
      go_wp2_with fail
      (with_reducible refine (CA.out _).mono ?_)
      rintro e _ ⟨rfl, rfl⟩
      have hbA : Below w2.heap.size w2 (w2.alloc (.cells #[.int .i64 (rdI hh), .slice none 0 0] 51)) := (Below.refl _ _).alloc (Nat.le_refl _) _
      have PE0 : PF w.heap.size w2.heap.size (rdI hh) none 0 [] (w2.alloc (.cells #[.int .i64 (rdI hh), .slice none 0 0] 51)) :=
        ⟨K2.next hbA, fun o => (hbA.frozen (p := ⟨w.heap.size, o, none⟩) K2.lt).trans (F2 o), K2.lt, ⟨by simp, by simp, by simp⟩, fun o => by simp, World.ownsRow_nil _ _ _ _⟩
      have hq2 := txs_at ho (j := 1) (t := q) rfl
      have BB := B2.trans (hbA.mono B2.size)
      obtain ⟨X, hX⟩ : ∃ X, X = rdI hh := ⟨_, rfl⟩
      rw [← hX] at PE0 hbA BB HYE ⊢
      obtain ⟨g6, hg6⟩ : ∃ g6, g6 = w2.heap.size := ⟨_, rfl⟩
      have hlg := PE0.lt
      have hlt2 := K2.lt
      have hFn : (spl 44 q).length ≤ 1100 := by have h5 := join_len0 44 (spl 44 q); rw [join_spl] at h5; omega
      have hpf := spl_len 44 q
      have hF0 : (spl 44 q) ≠ [] := spl_ne _ _
      obtain ⟨F, hF⟩ : ∃ F, spl 44 q = F := ⟨_, rfl⟩
      rw [hF] at CF hpf hFn HCL HYE hF0
      clear hX hF CA F2 hc0
      go_wp2_with fail
      (with_reducible refine (CF.out _).mono ?_)
      rintro e w6 ⟨A8, c8, rfl, ho8, hb8⟩
      have hFl := List.length_pos_iff.2 hF0
      obtain ⟨g8, rfl⟩ := own_form ho8 hFl
      have hcap8 := own_cap ho8
      have E8 := PE0.keep hb8
      have P8 : PY w.heap.size w2.heap.size X g8 F.length c8 F none 0 [] w6 :=
        ⟨E8.res, E8.rf, E8.lt, E8.box, E8.bf, own_base ho8 (by simp), by have := PE0.box.lt; have := (own_lt ho8).1; omega, World.ownsRow_nil _ _ _ _⟩
      rw [← hg6] at P8 ⊢
      have BB := BB.trans (hb8.mono BB.size)
      have hgl : g6 < g8 := P8.glt
      have hlg : w.heap.size < g6 := P8.lt
      clear CF E8 PE0 ho8 hb8 hq2 hg6 hbA K2 B2 ho hlt
      go_wp2_with fail
      go_loopw [30] (fun i wr => ∃ k A6 c6, ∃ L : List Wi, k ≤ F.length ∧ i = .int .i64 k ∧ wisOf (F.take k) = some L ∧ PY w.heap.size g6 X g8 F.length c8 F A6 c6 L wr ∧ Below w.heap.size w wr) (fun i _ => F.length - (intOf i).toNat)
      case atStart => exact ⟨0, none, 0, [], Nat.zero_le _, rfl, rfl, P8, BB⟩
      case round =>
        obtain ⟨k, A6, c6, L, hk, rfl, hsq, hP, hbr⟩ := hrel
        clear P8 BB
        by_cases hlt : k < F.length
        · obtain ⟨t, ht⟩ : ∃ t, F[k]? = some t := ⟨_, List.getElem?_eq_getElem hlt⟩
          have e0 := txs_at hP.parts (j := k) (t := t) ht
          have CT := Lib.hid (split_basW t 45 45 rfl (by have := hpf t (List.mem_of_getElem? ht); omega) wr)
          have i1 : (0 : Int) ≤ (k : Int) := by omega
          have i2 : (k : Int) < (F.length : Int) := by omega
          have HSQ := Lib.hid hsq
          have HT := Lib.hid ht
          clear hsq ht
          go_wp2_with fail
          (with_reducible refine CT.out.mono ?_)
          rintro e w4 ⟨A4, c4, rfl, ho4, hb4⟩
          have hP4 := hP.keep hb4
          have hb44 := hbr.trans (hb4.mono hbr.size)
          by_cases h3 : (spl 45 t).length = 2
          · obtain ⟨a3, b3, HS3⟩ : ∃ a3 b3, spl 45 t = [a3, b3] := by
              match hs : spl 45 t, h3 with
              | [a3, b3], _ => exact ⟨a3, b3, rfl⟩
            have hLle : L.length ≤ 1100 := by
              have hlen : L.length = k := by have := wisOf_len HSQ.out; rw [List.length_take] at this; omega
              omega
            have hk1 : L.length + 1 ≤ maxLen := by unfold maxLen; omega
            have hk2 : (L.length + 1) * 16 ≤ 140737488355328 := by omega
            rw [HS3] at ho4 ⊢
            obtain ⟨g4, rfl⟩ := own_form ho4 (by simp)
            have e0 := txs_at ho4 (j := 0) (t := a3) rfl
            have e1 := txs_at ho4 (j := 1) (t := b3) rfl
            simp only [List.length_cons, List.length_nil, Nat.zero_add, Nat.reduceAdd] at e0 e1 ho4 ⊢
            have hlt4 := own_lt ho4
            have hcap4 := own_cap ho4
            have C5 := Lib.hid (fun V => read_bas a3 V)
            have C9 := Lib.hid (fun V => read_bas b3 V)
            have HS3 := Lib.hid HS3
            obtain ⟨i0, hi, hz0, hz1, hz2⟩ := info_parts infoWi
            have HO4 := Lib.hid ho4
            have HSL := Lib.hid (fun k hk => (hP.sq.lt k hk).2)
            clear CT ho4 hb4 hP
            go_wp2_with fail
            have HP4 := Lib.hid hP4
            have INV : ∀ V, Below w4.heap.size w4 V → V.cell? ⟨g6, 1, none⟩ = some (.slice A6 L.length c6) ∧ V.cell? ⟨g4, 0, none⟩ = some (.string (bas a3)) ∧ V.cell? ⟨g4, 1, none⟩ = some (.string (bas b3)) := fun V hb => ⟨(HP4.out.keep hb).box.c1, (hb.cell (p := ⟨g4, 0, none⟩) hlt4.2).trans e0, (hb.cell (p := ⟨g4, 1, none⟩) hlt4.2).trans e1⟩
            have hd4 : Below w4.heap.size w4 w4.drew := (Below.refl _ _).drew
            refine wp_region_top 13 (fun w' => w'.cell? ⟨g6, 1, none⟩ = some (.slice A6 L.length c6) ∧ w'.cell? ⟨g4, 0, none⟩ = some (.string (bas a3)) ∧ w'.cell? ⟨g4, 1, none⟩ = some (.string (bas b3))) (by kernel_rfl) (INV _ hd4) (fun hHeld => ?_)
            refine wpTop.take 0 (v := ?_) rfl (by kernel_rfl) (by kernel_rfl) (by kernel_rfl) (by kernel_rfl) (fun _ _ _ h => h) (Or.inl ⟨by rfl, ?_⟩) (by assumption) ?_
            rotate_left
            · intro w hSw; (try dsimp only at hSw); go_simp; try (with_reducible rfl)
            try simp only [Act.put, List.getElem_toArray, List.getElem_cons_zero, List.getElem_cons_succ, List.setIfInBounds_toArray, List.set_cons_zero, List.set_cons_succ]
            refine wpTop.take 1 (v := ?_) rfl (by kernel_rfl) (by kernel_rfl) (by kernel_rfl) (by kernel_rfl) (fun _ _ _ h => h) (Or.inl ⟨by rfl, ?_⟩) (by assumption) ?_
            rotate_left
            · intro w hSw; (try dsimp only at hSw); go_simp; try (with_reducible rfl)
            try simp only [Act.put, List.getElem_toArray, List.getElem_cons_zero, List.getElem_cons_succ, List.setIfInBounds_toArray, List.set_cons_zero, List.set_cons_succ]
            refine wpTop.take 2 (v := ?_) rfl (by kernel_rfl) (by kernel_rfl) (by kernel_rfl) (by kernel_rfl) (fun _ _ _ h => h) (Or.inl ⟨by rfl, ?_⟩) (by assumption) ?_
            rotate_left
            · intro w hSw; (try dsimp only at hSw); go_simp; try (with_reducible rfl)
            try simp only [Act.put, List.getElem_toArray, List.getElem_cons_zero, List.getElem_cons_succ, List.setIfInBounds_toArray, List.set_cons_zero, List.set_cons_succ]
            refine wpTop.take 3 (v := ?_) rfl (by kernel_rfl) (by kernel_rfl) (by kernel_rfl) (by kernel_rfl) (fun _ _ _ h => h) (Or.inl ⟨by rfl, ?_⟩) (by assumption) ?_
            rotate_left
            · intro w hSw; (try dsimp only at hSw); go_simp; try (with_reducible rfl)
            try simp only [Act.put, List.getElem_toArray, List.getElem_cons_zero, List.getElem_cons_succ, List.setIfInBounds_toArray, List.set_cons_zero, List.set_cons_succ]
            refine wpTop.take 4 (v := ?_) rfl (by kernel_rfl) (by kernel_rfl) (by kernel_rfl) (by kernel_rfl) (fun _ _ _ h => h) (Or.inl ⟨by rfl, ?_⟩) (by assumption) ?_
            rotate_left
            · intro w hSw; (try dsimp only at hSw); go_simp; try (with_reducible rfl)
            try simp only [Act.put, List.getElem_toArray, List.getElem_cons_zero, List.getElem_cons_succ, List.setIfInBounds_toArray, List.set_cons_zero, List.set_cons_succ]
            refine wpTop.take 6 (v := ?_) rfl (by kernel_rfl) (by kernel_rfl) (by kernel_rfl) (by kernel_rfl) (fun _ _ _ h => h) (Or.inl ⟨by rfl, ?_⟩) (by assumption) ?_
            rotate_left
            · intro w hSw; (try dsimp only at hSw); go_simp; try (with_reducible rfl)
            try simp only [Act.put, List.getElem_toArray, List.getElem_cons_zero, List.getElem_cons_succ, List.setIfInBounds_toArray, List.set_cons_zero, List.set_cons_succ]
            refine wpTop.take 7 (v := ?_) rfl (by kernel_rfl) (by kernel_rfl) (by kernel_rfl) (by kernel_rfl) (fun _ _ _ h => h) (Or.inl ⟨by rfl, ?_⟩) (by assumption) ?_
            rotate_left
            · intro w hSw; (try dsimp only at hSw); go_simp; try (with_reducible rfl)
            try simp only [Act.put, List.getElem_toArray, List.getElem_cons_zero, List.getElem_cons_succ, List.setIfInBounds_toArray, List.set_cons_zero, List.set_cons_succ]
            refine wpTop.take 8 (v := ?_) rfl (by kernel_rfl) (by kernel_rfl) (by kernel_rfl) (by kernel_rfl) (fun _ _ _ h => h) (Or.inl ⟨by rfl, ?_⟩) (by assumption) ?_
            rotate_left
            · intro w hSw; (try dsimp only at hSw); go_simp; try (with_reducible rfl)
            try simp only [Act.put, List.getElem_toArray, List.getElem_cons_zero, List.getElem_cons_succ, List.setIfInBounds_toArray, List.set_cons_zero, List.set_cons_succ]
            refine wpTop.one 5 rfl (by kernel_rfl) (fun K hK => ?_)
            go_simp
            (with_reducible refine (C5.out _).mono ?_)
            rintro e _ ⟨rfl, rfl⟩
            refine hK.out _ _ (fun _ => INV _ (by first | exact hd4 | exact hd4.alloc hd4.size _)) (fun hH => ?_)
            clear hK K
            have hHeld := hH (by decide)
            clear hH
            try simp only [Act.put, List.getElem_toArray, List.getElem_cons_zero, List.getElem_cons_succ, List.setIfInBounds_toArray, List.set_cons_zero, List.set_cons_succ]
            refine wpTop.one 9 rfl (by kernel_rfl) (fun K hK => ?_)
            go_simp
            (with_reducible refine (C9.out _).mono ?_)
            rintro e _ ⟨rfl, rfl⟩
            refine hK.out _ _ (fun _ => INV _ (by first | exact hd4 | exact hd4.alloc hd4.size _)) (fun hH => ?_)
            clear hK K
            have hHeld := hH (by decide)
            clear hH
            try simp only [Act.put, List.getElem_toArray, List.getElem_cons_zero, List.getElem_cons_succ, List.setIfInBounds_toArray, List.set_cons_zero, List.set_cons_succ]
            refine wpTop.take 10 (v := ?_) rfl (by kernel_rfl) (by kernel_rfl) (by kernel_rfl) (by kernel_rfl) (fun _ _ _ h => h) (Or.inl ⟨by rfl, ?_⟩) (by assumption) ?_
            rotate_left
            · intro w hSw; (try dsimp only at hSw); go_simp; try (with_reducible rfl)
            try simp only [Act.put, List.getElem_toArray, List.getElem_cons_zero, List.getElem_cons_succ, List.setIfInBounds_toArray, List.set_cons_zero, List.set_cons_succ]
            refine wpTop.one 11 rfl (by kernel_rfl) (fun K hK => ?_)
            go_simp
            refine hK.out _ _ (fun _ => INV _ (by first | exact hd4 | exact hd4.alloc hd4.size _)) (fun hH => ?_)
            clear hK K
            have hHeld := hH (by decide)
            clear hH
            try simp only [Act.put, List.getElem_toArray, List.getElem_cons_zero, List.getElem_cons_succ, List.setIfInBounds_toArray, List.set_cons_zero, List.set_cons_succ]
            refine wpTop.one 12 rfl (by kernel_rfl) (fun K hK => ?_)
            have hd5 : Below w4.heap.size w4 (w4.alloc (.cells #[.int .i64 (rdI a3), .int .i64 (rdI b3)] 110)).drew := ((Below.refl _ _).alloc (Nat.le_refl _) _).drew
            have P5 := HP4.out.keep hd5
            refine app_step rfl _ _ _ rfl (g8 + 1) 110 i0 (.agg #[.int .i64 0, .int .i64 0]) 2 16 Tryd.underlying49 hi hz0 hz1 hz2 rfl (by decide) (.slice A6 L.length c6) L.length (flatW L) rfl P5.sq (some ⟨w4.heap.size, 0, none⟩) 1 1 [.int .i64 (rdI a3), .int .i64 (rdI b3)] rfl rfl (.inr ⟨_, rfl, new2n _ _ _ _⟩) (one2n _ _) hk1 hk2 (by have := (own_lt P5.parts).2; omega) ?_
            intro v' w6 hown6 hgrow hv6
            obtain ⟨A7, c7, rfl⟩ := own_val hown6
            have P6 := P5.push ⟨(rdI a3), (rdI b3)⟩ hgrow hown6
            have hne6 : (.slice A6 L.length c6 : Value).ownBlock ≠ some g6 := fun e => by have := (P5.sq.lt g6 e).1; omega
            have q2 := (P5.box.far hgrow hne6).c1
            have q3 := (hgrow.frozen_far ⟨g6, 1, none⟩ P5.box.lt (fun e => hne6 e.symm)).trans (P5.bf 1)
            have q4 := P5.box.lt
            have B5 := hb44.trans (hd5.mono hb44.size)
            have B6 := B5.grown hgrow B5.size (fun k hk => by have := P5.sq.lt k hk; omega)
            have B7 := B6.setCell (p := ⟨g6, 1, none⟩) (show w.heap.size ≤ g6 by omega) (.slice A7 (L.length + 1) c7)
            have far4 := own_far (own_keep HO4.out hd5) hgrow (fun k hk e => by have := HO4.out.lt k hk; have := HSL.out k e; omega)
            have y40 := txs_at far4 (j := 0) (t := a3) rfl
            have y41 := txs_at far4 (j := 1) (t := b3) rfl
            refine hK.out _ _ (fun _ => ⟨q2, y40, y41⟩) (fun hH => ?_)
            clear hK K hH
            try simp only [Act.put, List.getElem_toArray, List.getElem_cons_zero, List.getElem_cons_succ, List.setIfInBounds_toArray, List.set_cons_zero, List.set_cons_succ]
            refine wpTop.one 13 rfl (by kernel_rfl) (fun K hK => ?_)
            go_simp
            refine hK.out _ _ (fun h => absurd h (by decide)) (fun hH => ?_)
            clear hK K hH
            try simp only [Act.put, List.getElem_toArray, List.getElem_cons_zero, List.getElem_cons_succ, List.setIfInBounds_toArray, List.set_cons_zero, List.set_cons_succ]
            refine wpTop.one 14 rfl (by kernel_rfl) (fun K hK => ?_)
            go_simp
            refine hK.out _ _ (fun h => absurd h (by decide)) (fun hH => ?_)
            clear hK K hH
            try simp only [Act.put, List.getElem_toArray, List.getElem_cons_zero, List.getElem_cons_succ, List.setIfInBounds_toArray, List.set_cons_zero, List.set_cons_succ]
            refine wpTop.all (by kernel_rfl) ?_ _
            go_wp2_with fail
            go_roundw
            case rel =>
                exact ⟨k + 1, A7, c7, L ++ [⟨rdI a3, rdI b3⟩], by omega, by go_num, by rw [List.take_succ, HT.out, Option.toList_some, wisOf_app, HSQ.out, wio_yes HS3.out], P6, B7⟩
            case measure => simp [intOf]; omega
          · have z4 : ¬ (((spl 45 t).length : Nat) : Int) = 2 := by omega
            have hn : wisOf F = none := wisOf_bad (k := k + 1) (by omega) (by rw [List.take_succ, HT.out, Option.toList_some, wisOf_app, HSQ.out, wio_no h3])
            have HN := Lib.hid (HCL.out hn)
            obtain ⟨kl, k0, k1⟩ := id hP4.res
            have f0 := hP4.rf 0
            have f1 := hP4.rf 1
            clear hn CT ho4 hb4 hP hP4
            go_wp2_with fail
            (try simp only [Exit.inBlock, Exit.then])
            refine bodyPost_ret (ret_ne (Nx.set2 ⟨kl, k0, k1⟩ 0 none 0 0) rfl rfl) rfl ?_
            exact ⟨0, none, 0, [], false, rfl, World.ownsRow_nil _ _ _ _, below_set2 hb44 _ _, fun h => (by cases h), fun _ => HN.out⟩
        · obtain rfl : k = F.length := by omega
          rw [List.take_of_length_le (Nat.le_refl _)] at hsq
          have hcand := HYE.out L hsq
          have hLn : L.length ≤ 1100 := by have := wisOf_len hsq; omega
          have hE := hP.pf
          have i2 : ¬ (F.length : Int) < (F.length : Int) := by omega
          clear hsq
          have hcapL := own_cap hE.sq
          have KEEP : ∀ V, Below wr.heap.size wr V → (Below wr.heap.size wr V ∧ V.cell? ⟨g6, 0, none⟩ = some (.int .i64 X) ∧ V.cell? ⟨g6, 1, none⟩ = some (.slice A6 L.length c6) ∧ V.cell? ⟨w.heap.size, 0, none⟩ = some (.int .i64 0) ∧ V.cell? ⟨w.heap.size, 1, none⟩ = some (.slice none 0 0) ∧ V.frozen? ⟨w.heap.size, 0, none⟩ = false ∧ V.frozen? ⟨w.heap.size, 1, none⟩ = false) := fun V hb => by
            have P := hE.keep hb
            exact ⟨hb, P.box.c0, P.box.c1, P.res.c0, P.res.c1, P.rf 0, P.rf 1⟩
          have KEEP2 : ∀ V V', (Below wr.heap.size wr V ∧ V.cell? ⟨g6, 0, none⟩ = some (.int .i64 X) ∧ V.cell? ⟨g6, 1, none⟩ = some (.slice A6 L.length c6) ∧ V.cell? ⟨w.heap.size, 0, none⟩ = some (.int .i64 0) ∧ V.cell? ⟨w.heap.size, 1, none⟩ = some (.slice none 0 0) ∧ V.frozen? ⟨w.heap.size, 0, none⟩ = false ∧ V.frozen? ⟨w.heap.size, 1, none⟩ = false) → Below V.heap.size V V' → (Below wr.heap.size wr V' ∧ V'.cell? ⟨g6, 0, none⟩ = some (.int .i64 X) ∧ V'.cell? ⟨g6, 1, none⟩ = some (.slice A6 L.length c6) ∧ V'.cell? ⟨w.heap.size, 0, none⟩ = some (.int .i64 0) ∧ V'.cell? ⟨w.heap.size, 1, none⟩ = some (.slice none 0 0) ∧ V'.frozen? ⟨w.heap.size, 0, none⟩ = false ∧ V'.frozen? ⟨w.heap.size, 1, none⟩ = false) := fun V V' h hb => KEEP V' (h.1.trans (hb.mono h.1.size))
          have CG := fun V (h : (Below wr.heap.size wr V ∧ V.cell? ⟨g6, 0, none⟩ = some (.int .i64 X) ∧ V.cell? ⟨g6, 1, none⟩ = some (.slice A6 L.length c6) ∧ V.cell? ⟨w.heap.size, 0, none⟩ = some (.int .i64 0) ∧ V.cell? ⟨w.heap.size, 1, none⟩ = some (.slice none 0 0) ∧ V.frozen? ⟨w.heap.size, 0, none⟩ = false ∧ V.frozen? ⟨w.heap.size, 1, none⟩ = false)) => neGood_any X A6 L.length c6 L V rfl (by omega) (wis_of_own (hE.keep h.1).sq)
          by_cases hG : NetG X L
          · have CG := fun V (h : (Below wr.heap.size wr V ∧ V.cell? ⟨g6, 0, none⟩ = some (.int .i64 X) ∧ V.cell? ⟨g6, 1, none⟩ = some (.slice A6 L.length c6) ∧ V.cell? ⟨w.heap.size, 0, none⟩ = some (.int .i64 0) ∧ V.cell? ⟨w.heap.size, 1, none⟩ = some (.slice none 0 0) ∧ V.frozen? ⟨w.heap.size, 0, none⟩ = false ∧ V.frozen? ⟨w.heap.size, 1, none⟩ = false)) => callB_yes (CG V h) hG
            have hs := netG_sm hG
            have hn30 : L.length ≤ 30 := hG.2.1.2
            have hXX := hG.1
            have CT := fun V (h : (Below wr.heap.size wr V ∧ V.cell? ⟨g6, 0, none⟩ = some (.int .i64 X) ∧ V.cell? ⟨g6, 1, none⟩ = some (.slice A6 L.length c6) ∧ V.cell? ⟨w.heap.size, 0, none⟩ = some (.int .i64 0) ∧ V.cell? ⟨w.heap.size, 1, none⟩ = some (.slice none 0 0) ∧ V.frozen? ⟨w.heap.size, 0, none⟩ = false ∧ V.frozen? ⟨w.heap.size, 1, none⟩ = false)) => neText_any X A6 L.length c6 L V rfl (by omega) (by omega) (wis_of_own (hE.keep h.1).sq) hs
            obtain ⟨SC, hSC⟩ : ∃ SC, bas (ntx X.toNat L) = SC := ⟨_, rfl⟩
            rw [hSC] at CT
            obtain ⟨be, hbe⟩ : ∃ be, (SC.toList == S.toList) = be := ⟨_, rfl⟩
            have hyes : be = true → NetG X L ∧ ntx X.toNat L = l := fun e => by
              rw [← hbe, ← hSC, ← HS.out, ByteArray.toList_eq, ByteArray.toList_eq, bas_listW, bas_listW] at e
              exact ⟨hG, by simpa using e⟩
            have hno : be = false → ∀ N M, NetG N M → ntx N.toNat M ≠ l := fun e N M hG' e2 => by
              have h := cand_ntx hG'
              rw [e2, hcand] at h
              cases h
              rw [← hbe, ← hSC, ← HS.out, ByteArray.toList_eq, ByteArray.toList_eq, bas_listW, bas_listW] at e
              simp [e2] at e
            have HY2 := Lib.hid hyes
            have HN := Lib.hid hno
            have HK := Lib.hid hE
            clear hSC hyes hno
            have HG := Lib.hid hG
            clear hcand hG hE hP
            go_wp2_with fail
            have h0 := KEEP _ (Below.refl wr.heap.size wr).drew
            refine wp_region_top 11 (fun w' => w'.cell? ⟨g6, 0, none⟩ = some (.int .i64 X) ∧ w'.cell? ⟨g6, 1, none⟩ = some (.slice A6 L.length c6)) (by kernel_rfl) ⟨h0.2.1, h0.2.2.1⟩ (fun hHeld => ?_)
            refine wpTop.take 0 (v := ?_) rfl (by kernel_rfl) (by kernel_rfl) (by kernel_rfl) (by kernel_rfl) (fun _ _ _ h => h) (Or.inl ⟨by rfl, ?_⟩) (by assumption) ?_
            rotate_left
            · intro w hSw; (try dsimp only at hSw); go_simp; try (with_reducible rfl)
            try simp only [Act.put, List.getElem_toArray, List.getElem_cons_zero, List.getElem_cons_succ, List.setIfInBounds_toArray, List.set_cons_zero, List.set_cons_succ]
            refine wpTop.take 1 (v := ?_) rfl (by kernel_rfl) (by kernel_rfl) (by kernel_rfl) (by kernel_rfl) (fun _ _ _ h => h) (Or.inl ⟨by rfl, ?_⟩) (by assumption) ?_
            rotate_left
            · intro w hSw; (try dsimp only at hSw); go_simp; try (with_reducible rfl)
            try simp only [Act.put, List.getElem_toArray, List.getElem_cons_zero, List.getElem_cons_succ, List.setIfInBounds_toArray, List.set_cons_zero, List.set_cons_succ]
            refine wpTop.one 2 rfl (by kernel_rfl) (fun K hK => ?_)
            go_simp
            (with_reducible refine (CG _ h0).mono ?_)
            rintro e w7 ⟨rfl, hb7⟩
            have h7 := KEEP2 _ _ h0 hb7
            refine hK.out _ _ (fun _ => ⟨h7.2.1, h7.2.2.1⟩) (fun hH => ?_)
            clear hK K
            have hHeld := hH (by decide)
            clear hH
            try simp only [Act.put, List.getElem_toArray, List.getElem_cons_zero, List.getElem_cons_succ, List.setIfInBounds_toArray, List.set_cons_zero, List.set_cons_succ]
            refine wpTop.take 3 (v := ?_) rfl (by kernel_rfl) (by kernel_rfl) (by kernel_rfl) (by kernel_rfl) (fun _ _ _ h => h) (Or.inl ⟨by rfl, ?_⟩) (by assumption) ?_
            rotate_left
            · intro w hSw; (try dsimp only at hSw); go_simp; try (with_reducible rfl)
            try simp only [Act.put, List.getElem_toArray, List.getElem_cons_zero, List.getElem_cons_succ, List.setIfInBounds_toArray, List.set_cons_zero, List.set_cons_succ]
            refine wpTop.take 4 (v := ?_) rfl (by kernel_rfl) (by kernel_rfl) (by kernel_rfl) (by kernel_rfl) (fun _ _ _ h => h) (Or.inl ⟨by rfl, ?_⟩) (by assumption) ?_
            rotate_left
            · intro w hSw; (try dsimp only at hSw); go_simp; try (with_reducible rfl)
            try simp only [Act.put, List.getElem_toArray, List.getElem_cons_zero, List.getElem_cons_succ, List.setIfInBounds_toArray, List.set_cons_zero, List.set_cons_succ]
            refine wpTop.take 6 (v := ?_) rfl (by kernel_rfl) (by kernel_rfl) (by kernel_rfl) (by kernel_rfl) (fun _ _ _ h => h) (Or.inl ⟨by rfl, ?_⟩) (by assumption) ?_
            rotate_left
            · intro w hSw; (try dsimp only at hSw); go_simp; try (with_reducible rfl)
            try simp only [Act.put, List.getElem_toArray, List.getElem_cons_zero, List.getElem_cons_succ, List.setIfInBounds_toArray, List.set_cons_zero, List.set_cons_succ]
            refine wpTop.one 5 rfl (by kernel_rfl) (fun K hK => ?_)
            go_simp
            (with_reducible refine (CT _ h7).mono ?_)
            rintro e w8 ⟨rfl, hb8⟩
            have h8 := KEEP2 _ _ h7 hb8
            refine hK.out _ _ (fun _ => ⟨h8.2.1, h8.2.2.1⟩) (fun hH => ?_)
            clear hK K
            have hHeld := hH (by decide)
            clear hH
            try simp only [Act.put, List.getElem_toArray, List.getElem_cons_zero, List.getElem_cons_succ, List.setIfInBounds_toArray, List.set_cons_zero, List.set_cons_succ]
            refine wpTop.take 7 (v := ?_) rfl (by kernel_rfl) (by kernel_rfl) (by kernel_rfl) (by kernel_rfl) (fun _ _ _ h => h) (Or.inl ⟨by rfl, ?_⟩) (by assumption) ?_
            rotate_left
            · intro w hSw; (try dsimp only at hSw); go_simp; try (with_reducible rfl)
            try simp only [Act.put, List.getElem_toArray, List.getElem_cons_zero, List.getElem_cons_succ, List.setIfInBounds_toArray, List.set_cons_zero, List.set_cons_succ]
            refine wpTop.take 8 (v := ?_) rfl (by kernel_rfl) (by kernel_rfl) (by kernel_rfl) (by kernel_rfl) (fun _ _ _ h => h) (Or.inl ⟨by rfl, ?_⟩) (by assumption) ?_
            rotate_left
            · intro w hSw; (try dsimp only at hSw); go_simp; try (with_reducible rfl)
            try simp only [Act.put, List.getElem_toArray, List.getElem_cons_zero, List.getElem_cons_succ, List.setIfInBounds_toArray, List.set_cons_zero, List.set_cons_succ]
            obtain ⟨hbE, x0, x1, k0, k1, f0, f1⟩ := h8
            refine wpTop.one 9 rfl (by kernel_rfl) (fun K hK => ?_)
            go_simp
            refine hK.out _ _ (fun _ => ⟨by simp [go_sem, *], by simp [go_sem, *]⟩) (fun hH => ?_)
            clear hK K
            have hHeld := hH (by decide)
            clear hH
            try simp only [Act.put, List.getElem_toArray, List.getElem_cons_zero, List.getElem_cons_succ, List.setIfInBounds_toArray, List.set_cons_zero, List.set_cons_succ]
            refine wpTop.take 10 (v := ?_) rfl (by kernel_rfl) (by kernel_rfl) (by kernel_rfl) (by kernel_rfl) (fun _ _ _ h => h) (Or.inl ⟨by rfl, ?_⟩) (by assumption) ?_
            rotate_left
            · intro w hSw; (try dsimp only at hSw); go_simp; try (with_reducible rfl)
            try simp only [Act.put, List.getElem_toArray, List.getElem_cons_zero, List.getElem_cons_succ, List.setIfInBounds_toArray, List.set_cons_zero, List.set_cons_succ]
            refine wpTop.all (by kernel_rfl) ?_ _
            go_wp2_with fail
            (try simp only [Exit.inBlock, Exit.then])
            refine bodyPost_ret (ret_ne (Nx.set2 ⟨by have := hbE.size; have := HK.out.res.lt; omega, k0, k1⟩ X A6 L.length c6) rfl rfl) rfl ?_
            exact ⟨X, A6, c6, L, _, rfl, own_base (ownsRow_setCell_below (ownsRow_setCell_below (HK.out.keep hbE).sq (by show w.heap.size < g6 + 1; omega) _) (by show w.heap.size < g6 + 1; omega) _) (by omega), below_set2 (hbr.trans (hbE.mono hbr.size)) _ _, HY2.out, HN.out⟩
          · have CG := fun V (h : (Below wr.heap.size wr V ∧ V.cell? ⟨g6, 0, none⟩ = some (.int .i64 X) ∧ V.cell? ⟨g6, 1, none⟩ = some (.slice A6 L.length c6) ∧ V.cell? ⟨w.heap.size, 0, none⟩ = some (.int .i64 0) ∧ V.cell? ⟨w.heap.size, 1, none⟩ = some (.slice none 0 0) ∧ V.frozen? ⟨w.heap.size, 0, none⟩ = false ∧ V.frozen? ⟨w.heap.size, 1, none⟩ = false)) => callB_no (CG V h) hG
            have hno : ∀ N M, NetG N M → ntx N.toNat M ≠ l := fun N M hG' e => by
              have h := cand_ntx hG'
              rw [e, hcand] at h
              cases h
              exact hG hG'
            have HN := Lib.hid hno
            have HK := Lib.hid hE
            clear hno hcand hG hE hP
            go_wp2_with fail
            have h0 := KEEP _ (Below.refl wr.heap.size wr).drew
            refine wp_region_top 11 (fun w' => w'.cell? ⟨g6, 0, none⟩ = some (.int .i64 X) ∧ w'.cell? ⟨g6, 1, none⟩ = some (.slice A6 L.length c6)) (by kernel_rfl) ⟨h0.2.1, h0.2.2.1⟩ (fun hHeld => ?_)
            refine wpTop.take 0 (v := ?_) rfl (by kernel_rfl) (by kernel_rfl) (by kernel_rfl) (by kernel_rfl) (fun _ _ _ h => h) (Or.inl ⟨by rfl, ?_⟩) (by assumption) ?_
            rotate_left
            · intro w hSw; (try dsimp only at hSw); go_simp; try (with_reducible rfl)
            try simp only [Act.put, List.getElem_toArray, List.getElem_cons_zero, List.getElem_cons_succ, List.setIfInBounds_toArray, List.set_cons_zero, List.set_cons_succ]
            refine wpTop.take 1 (v := ?_) rfl (by kernel_rfl) (by kernel_rfl) (by kernel_rfl) (by kernel_rfl) (fun _ _ _ h => h) (Or.inl ⟨by rfl, ?_⟩) (by assumption) ?_
            rotate_left
            · intro w hSw; (try dsimp only at hSw); go_simp; try (with_reducible rfl)
            try simp only [Act.put, List.getElem_toArray, List.getElem_cons_zero, List.getElem_cons_succ, List.setIfInBounds_toArray, List.set_cons_zero, List.set_cons_succ]
            refine wpTop.one 2 rfl (by kernel_rfl) (fun K hK => ?_)
            go_simp
            (with_reducible refine (CG _ h0).mono ?_)
            rintro e w7 ⟨rfl, hb7⟩
            have h7 := KEEP2 _ _ h0 hb7
            refine hK.out _ _ (fun _ => ⟨h7.2.1, h7.2.2.1⟩) (fun hH => ?_)
            clear hK K
            have hHeld := hH (by decide)
            clear hH
            try simp only [Act.put, List.getElem_toArray, List.getElem_cons_zero, List.getElem_cons_succ, List.setIfInBounds_toArray, List.set_cons_zero, List.set_cons_succ]
            refine wpTop.take 3 (v := ?_) rfl (by kernel_rfl) (by kernel_rfl) (by kernel_rfl) (by kernel_rfl) (fun _ _ _ h => h) (Or.inl ⟨by rfl, ?_⟩) (by assumption) ?_
            rotate_left
            · intro w hSw; (try dsimp only at hSw); go_simp; try (with_reducible rfl)
            try simp only [Act.put, List.getElem_toArray, List.getElem_cons_zero, List.getElem_cons_succ, List.setIfInBounds_toArray, List.set_cons_zero, List.set_cons_succ]
            refine wpTop.take 4 (v := undef) rfl (by kernel_rfl) (by kernel_rfl) (by kernel_rfl) (by kernel_rfl) (fun _ _ _ h => h) (Or.inr ⟨by rfl, rfl⟩) (by assumption) ?_
            try simp only [Act.put, List.getElem_toArray, List.getElem_cons_zero, List.getElem_cons_succ, List.setIfInBounds_toArray, List.set_cons_zero, List.set_cons_succ]
            refine wpTop.take 6 (v := undef) rfl (by kernel_rfl) (by kernel_rfl) (by kernel_rfl) (by kernel_rfl) (fun _ _ _ h => h) (Or.inr ⟨by rfl, rfl⟩) (by assumption) ?_
            try simp only [Act.put, List.getElem_toArray, List.getElem_cons_zero, List.getElem_cons_succ, List.setIfInBounds_toArray, List.set_cons_zero, List.set_cons_succ]
            refine wpTop.one 5 rfl (by kernel_rfl) (fun K hK => ?_)
            go_simp
            refine hK.out _ _ (fun _ => ⟨h7.2.1, h7.2.2.1⟩) (fun hH => ?_)
            clear hK K
            have hHeld := hH (by decide)
            clear hH
            try simp only [Act.put, List.getElem_toArray, List.getElem_cons_zero, List.getElem_cons_succ, List.setIfInBounds_toArray, List.set_cons_zero, List.set_cons_succ]
            refine wpTop.take 7 (v := undef) rfl (by kernel_rfl) (by kernel_rfl) (by kernel_rfl) (by kernel_rfl) (fun _ _ _ h => h) (Or.inr ⟨by rfl, rfl⟩) (by assumption) ?_
            try simp only [Act.put, List.getElem_toArray, List.getElem_cons_zero, List.getElem_cons_succ, List.setIfInBounds_toArray, List.set_cons_zero, List.set_cons_succ]
            refine wpTop.take 8 (v := ?_) rfl (by kernel_rfl) (by kernel_rfl) (by kernel_rfl) (by kernel_rfl) (fun _ _ _ h => h) (Or.inl ⟨by rfl, ?_⟩) (by assumption) ?_
            rotate_left
            · intro w hSw; (try dsimp only at hSw); go_simp; try (with_reducible rfl)
            try simp only [Act.put, List.getElem_toArray, List.getElem_cons_zero, List.getElem_cons_succ, List.setIfInBounds_toArray, List.set_cons_zero, List.set_cons_succ]
            obtain ⟨hbE, x0, x1, k0, k1, f0, f1⟩ := h7
            refine wpTop.one 9 rfl (by kernel_rfl) (fun K hK => ?_)
            go_simp
            refine hK.out _ _ (fun _ => ⟨by simp [go_sem, *], by simp [go_sem, *]⟩) (fun hH => ?_)
            clear hK K
            have hHeld := hH (by decide)
            clear hH
            try simp only [Act.put, List.getElem_toArray, List.getElem_cons_zero, List.getElem_cons_succ, List.setIfInBounds_toArray, List.set_cons_zero, List.set_cons_succ]
            refine wpTop.take 10 (v := ?_) rfl (by kernel_rfl) (by kernel_rfl) (by kernel_rfl) (by kernel_rfl) (fun _ _ _ h => h) (Or.inl ⟨by rfl, ?_⟩) (by assumption) ?_
            rotate_left
            · intro w hSw; (try dsimp only at hSw); go_simp; try (with_reducible rfl)
            try simp only [Act.put, List.getElem_toArray, List.getElem_cons_zero, List.getElem_cons_succ, List.setIfInBounds_toArray, List.set_cons_zero, List.set_cons_succ]
            refine wpTop.all (by kernel_rfl) ?_ _
            go_wp2_with fail
            (try simp only [Exit.inBlock, Exit.then])
            refine bodyPost_ret (ret_ne (Nx.set2 ⟨by have := hbE.size; have := HK.out.res.lt; omega, k0, k1⟩ X A6 L.length c6) rfl rfl) rfl ?_
            exact ⟨X, A6, c6, L, _, rfl, own_base (ownsRow_setCell_below (ownsRow_setCell_below (HK.out.keep hbE).sq (by show w.heap.size < g6 + 1; omega) _) (by show w.heap.size < g6 + 1; omega) _) (by omega), below_set2 (hbr.trans (hbE.mono hbr.size)) _ _, fun h => (by cases h), fun _ => HN.out⟩
    · have z2 : ¬ ((R0.length : Nat) : Int) = 2 := by omega
      have zb : (((R0.length : Nat) : Int) != 2) = true := by simpa using z2
      have HN := Lib.hid (HTWO.out (by rw [HR0.out]; exact hp2))
      go_enter Tryd.func77, Tryd.ntmps77
      go_wp2_with fail
      (with_reducible refine HC1.out.mono ?_)
      rintro e w2 ⟨A, c, rfl, ho, hb2⟩
      have K2 := K0.next hb2
      have F2 : ∀ o, w2.frozen? ⟨w.heap.size, o, none⟩ = false := fun o => (hb2.frozen (p := ⟨w.heap.size, o, none⟩) K0.lt).trans (by simp)
      have B2 := B0.trans (hb2.mono B0.size)
      obtain ⟨kl, k0, k1⟩ := id K2
      have f0 := F2 0
      have f1 := F2 1
      clear HC1 ho hb2
      go_wp2_with fail
      (try simp only [Exit.inBlock, Exit.then])
      refine bodyPost_ret (ret_ne (Nx.set2 ⟨kl, k0, k1⟩ 0 none 0 0) rfl rfl) rfl ?_
      exact ⟨0, none, 0, [], false, rfl, World.ownsRow_nil _ _ _ _, below_set2 B2 _ _, fun h => (by cases h), fun _ => HN.out⟩
end Go.Proofs.YtbkfenhiaedlgaaDoor
