/- The model's reading of a cut's text. -/
import Derived.Test.YtbkfenhiaedlgaaDoorPcP
import Derived.Test.YtbkfenhiaedlgaaDoorSpl
import Derived.Test.YtbkfenhiaedlgaaDoorPm
import Derived.Deep.DeepCutAuto
set_option linter.all false
namespace Go.Proofs.YtbkfenhiaedlgaaDoor
open Go.RowKit

theorem spl_len (b : UInt8) : ∀ (l : List UInt8), ∀ p ∈ spl b l, p.length ≤ l.length
  | [], p, h => by simp [spl] at h; subst h; simp
  | c :: r, p, h => by
    have ih := spl_len b r
    unfold spl at h
    split at h
    · rcases List.mem_cons.1 h with rfl | h
      · simp
      · have := ih p h; simp; omega
    · cases hs : spl b r with
      | nil => exact absurd hs (spl_ne _ _)
      | cons x t =>
        rw [hs] at h ih
        simp only at h
        rcases List.mem_cons.1 h with rfl | h
        · have := ih x (by simp); simp; omega
        · have := ih p (List.mem_cons_of_mem _ h); simp; omega
theorem join_len0 (b : UInt8) (xs : List (List UInt8)) : xs.length ≤ (Lib.join xs [b]).length + 1 := by
  cases xs with
  | nil => simp
  | cons x r => rw [Lib.join_length]; simp
theorem bas_list (l : List UInt8) : (bas l).data.toList = l := by simp [bas]
theorem split_bas (l : List UInt8) (b : UInt8) (k : Int) (hk : k = b.toNat) (hs : l.length ≤ 1000000) (w : World) : Calls Tryd.prog 106 #[.string (bas l), .int .u8 k] w (RetSp w (spl b l)) := by
  have h := split_any (bas l) b (by have := bas_size l; omega) w
  rw [bas_list, ← hk] at h
  exact h
theorem read_bas (l : List UInt8) (w : World) : Calls Tryd.prog 107 #[.string (bas l)] w fun e w' => e = .returned (.int .i64 (rdI l)) ∧ w = w' := by
  have h := read_any (bas l) w
  rw [bas_list] at h
  exact h
/-- A text of the row. -/
theorem txs_at {w : World} {base g n c : Nat} {R : List (List UInt8)} (ho : w.ownsRow base 9 1 (.slice (some ⟨g, 0, none⟩) n c) n (txs R)) {j : Nat} {t : List UInt8} (hj : R[j]? = some t) : w.cell? ⟨g, j, none⟩ = some (.string (bas t)) := by
  have hx := ho.1
  have hjl : j < n := by have := (List.getElem?_eq_some_iff.1 hj).1; unfold txs at hx; simp at hx; omega
  rw [ho.cellAt j (by omega)]
  unfold txs
  rw [List.getElem?_map, hj]; rfl
/-- What cuParse returns. -/
def RetPc (w : World) (l : List UInt8) (e : Ending) (w' : World) : Prop :=
  ∃ W H A c, ∃ L : List Sq, ∃ ok : Bool, e = .returned (.tuple #[.agg #[.int .i64 W, .int .i64 H, .slice A L.length c], .bool ok]) ∧ w'.ownsRow w.heap.size 85 3 (.slice A L.length c) L.length (flat L) ∧ Below w.heap.size w w' ∧
    (ok = true → Good W H L ∧ txC W.toNat H.toNat L = l) ∧ (ok = false → ∀ W H L, Good W H L → txC W.toNat H.toNat L ≠ l)
theorem Bx.set3 {B : Nat} {w : World} {W H : Int} {A : Option Addr} {n c : Nat} (h : Bx B w W H A n c) (W' H' : Int) (A' : Option Addr) (n' c' : Nat) :
    Bx B (((w.setCell ⟨B, 0, none⟩ (.int .i64 W')).setCell ⟨B, 1, none⟩ (.int .i64 H')).setCell ⟨B, 2, none⟩ (.slice A' n' c')) W' H' A' n' c' := by
  obtain ⟨l, k0, k1, k2⟩ := h
  refine ⟨by simpa using l, ?_, ?_, ?_⟩
  · simp [go_sem, k0, k1, k2]
  · simp [go_sem, k0, k1, k2]
  · simp [go_sem, k0, k1, k2]
theorem below_set3 {b : Nat} {w w' : World} (h : Below b w w') (v0 v1 v2 : Value) : Below b w (((w'.setCell ⟨b, 0, none⟩ v0).setCell ⟨b, 1, none⟩ v1).setCell ⟨b, 2, none⟩ v2) :=
  ((h.setCell (p := ⟨b, 0, none⟩) (Nat.le_refl _) v0).setCell (p := ⟨b, 1, none⟩) (Nat.le_refl _) v1).setCell (p := ⟨b, 2, none⟩) (Nat.le_refl _) v2
set_option maxRecDepth 100000 in
/-- A cut in its result's cell, and a bool. -/
theorem ret_cut {tmps : Array Value} {w : World} {B : Nat} {W H : Int} {A : Option Addr} {n c : Nat} {b : Bool} (K : Bx B w W H A n c) (hp : tmps.getD 2 undef = .pointer (some ⟨B, 0, none⟩)) (hu : tmps.getD 3 undef = .bool b) :
    (results Tryd.f56 tmps).run Tryd.prog w = .ok (.tuple #[.agg #[.int .i64 W, .int .i64 H, .slice A n c], .bool b]) w := by
  have c0 := K.c0
  have c1 := K.c1
  have c2 := K.c2
  rw [results_cell_tmp rfl, hp, hu]
  simp [go_sem, c0, c1, c2]
set_option maxRecDepth 100000 in
set_option maxHeartbeats 4000000 in
theorem cuParse_any (l : List UInt8) (w : World) : Calls Tryd.prog 56 #[.string (bas l)] w (RetPc w l) := by
  have B0 : Below w.heap.size w (w.alloc (.cells #[.int .i64 0, .int .i64 0, .slice none 0 0] 30)) := (Below.refl _ _).alloc (Nat.le_refl _) _
  have K0 := Bx.start w 0 0 none 0 0 30
  have hsz := bas_size l
  by_cases hlen : 400 < l.length
  · have hno : ∀ W H L, Good W H L → txC W.toNat H.toNat L ≠ l := fun W H L hG e => by have := txC_400 hG; rw [e] at this; omega
    obtain ⟨S, hS⟩ : ∃ S, bas l = S := ⟨_, rfl⟩
    rw [hS] at hsz ⊢
    have z1 : (400 : Int) < (S.size : Int) := by omega
    obtain ⟨kl, k0, k1, k2⟩ := id K0
    have HN := Lib.hid hno
    clear hS hno
    go_enter Tryd.func56, Tryd.ntmps56
    go_wp2_with fail
    (try simp only [Exit.inBlock, Exit.then])
    refine bodyPost_ret (ret_cut K0 rfl rfl) rfl ?_
    exact ⟨0, 0, none, 0, [], false, rfl, World.ownsRow_nil _ _ _ _, B0, fun h => (by cases h), fun _ => HN.out⟩
  · obtain ⟨hh, T, hR⟩ : ∃ hh T, spl 59 l = hh :: T := by
      cases h : spl 59 l with
      | nil => exact absurd h (spl_ne _ _)
      | cons x t => exact ⟨x, t, rfl⟩
    have hpl := spl_len 59 l
    rw [hR] at hpl
    have hTl : T.length ≤ 1000 := by have h5 := join_len0 59 (spl 59 l); rw [join_spl, hR] at h5; simp at h5; omega
    have C1 := split_bas l 59 59 rfl (by omega) (w.alloc (.cells #[.int .i64 0, .int .i64 0, .slice none 0 0] 30))
    rw [hR] at C1
    obtain ⟨S, hS⟩ : ∃ S, bas l = S := ⟨_, rfl⟩
    rw [hS] at hsz C1 ⊢
    have z1 : ¬ (400 : Int) < (S.size : Int) := by omega
    have C1 := Lib.hid C1
    have C2 := fun V => split_bas hh 120 120 rfl (by have := hpl hh (by simp); omega) V
    have HC2 := Lib.hid C2
    have HS := Lib.hid hS
    have hpl2 := spl_len 120 hh
    have hR2 := Lib.hid (Eq.refl (spl 120 hh))
    obtain ⟨R2, hR2⟩ : ∃ R2, spl 120 hh = R2 := ⟨_, rfl⟩
    rw [hR2] at HC2 hpl2
    have HR2 := Lib.hid hR2
    have HR := Lib.hid hR
    clear C2 hS hR2 hR
    go_enter Tryd.func56, Tryd.ntmps56
    go_wp2_with fail
    (with_reducible refine C1.out.mono ?_)
    rintro e w2 ⟨A, c, rfl, ho, hb2⟩
    obtain ⟨g, rfl⟩ := own_form ho (by simp)
    have hc0 := txs_at ho (j := 0) (t := hh) rfl
    have K2 := K0.next hb2
    have F2 : ∀ o, w2.frozen? ⟨w.heap.size, o, none⟩ = false := fun o => (hb2.frozen (p := ⟨w.heap.size, o, none⟩) K0.lt).trans (by simp)
    have B2 := B0.trans (hb2.mono B0.size)
    simp only [List.length_cons] at ho ⊢
    have hcap := own_cap ho
    have hlt := own_lt ho
    clear C1 K0 B0 hb2
    go_wp2_with fail
    (with_reducible refine (HC2.out _).mono ?_)
    rintro e w3 ⟨A3, c3, rfl, ho3, hb3⟩
    have B3 := B2.trans (hb3.mono B2.size)
    have K3 := K2.next hb3
    have hlt2 := K2.lt
    have F3 : ∀ o, w3.frozen? ⟨w.heap.size, o, none⟩ = false := fun o => (hb3.frozen (p := ⟨w.heap.size, o, none⟩) K2.lt).trans (F2 o)
    have ho' := own_keep ho hb3
    by_cases h2 : R2.length = 2
    · obtain ⟨a, b, rfl⟩ : ∃ a b, R2 = [a, b] := by
        match R2, h2 with
        | [a, b], _ => exact ⟨a, b, rfl⟩
      obtain ⟨g3, rfl⟩ := own_form ho3 (by simp)
      have d0 := txs_at ho3 (j := 0) (t := a) rfl
      have d1 := txs_at ho3 (j := 1) (t := b) rfl
      simp only [List.length_cons, List.length_nil, Nat.zero_add, Nat.reduceAdd] at d0 d1 ho3 ⊢
      have hlt3 := own_lt ho3
      have hcap3 := own_cap ho3
      have CA := Lib.hid (fun V => read_bas a V)
      have CB := Lib.hid (fun V => read_bas b V)
      have HO := Lib.hid ho'
      obtain ⟨kl, k0, k1, k2⟩ := id K3
      clear HC2 ho ho3 hb3 K2 B2 F2 hc0
      go_upto_region 7 with fail
      go_cut [6] (fun p wx => p = .pointer (some ⟨w3.heap.size, 0, none⟩) ∧ wx = (w3.alloc (.cells #[.int .i64 (rdI a), .int .i64 (rdI b), .slice none 0 0] 30)).drew)
      case first =>
        go_wp2_with fail
        have INV : ∀ V, Below w3.heap.size w3 V → V.cell? ⟨g3, 0, none⟩ = some (.string (bas a)) ∧ V.cell? ⟨g3, 1, none⟩ = some (.string (bas b)) := fun V hb => ⟨(hb.cell (p := ⟨g3, 0, none⟩) hlt3.2).trans d0, (hb.cell (p := ⟨g3, 1, none⟩) hlt3.2).trans d1⟩
        have hd0 : Below w3.heap.size w3 w3.drew := (Below.refl _ _).drew
        have hda : ∀ o, Below w3.heap.size w3 (w3.alloc o).drew := fun o => ((Below.refl _ _).alloc (Nat.le_refl _) o).drew
        refine wp_region_top 13 (fun w' => w'.cell? ⟨g3, 0, none⟩ = some (.string (bas a)) ∧ w'.cell? ⟨g3, 1, none⟩ = some (.string (bas b))) (by kernel_rfl) ⟨by simpa [go_sem] using d0, by simpa [go_sem] using d1⟩ (fun hHeld => ?_)
        refine wpTop.take 0 (v := ?_) rfl (by kernel_rfl) (by kernel_rfl) (by kernel_rfl) (by kernel_rfl) (fun _ _ _ h => h) (Or.inl ⟨by rfl, ?_⟩) (by assumption) ?_
        rotate_left
        · intro w hSw; (try dsimp only at hSw); go_simp; try (with_reducible rfl)
        try simp only [Act.put, List.getElem_toArray, List.getElem_cons_zero, List.getElem_cons_succ, List.setIfInBounds_toArray, List.set_cons_zero, List.set_cons_succ]
        refine wpTop.take 1 (v := ?_) rfl (by kernel_rfl) (by kernel_rfl) (by kernel_rfl) (by kernel_rfl) (fun _ _ _ h => h) (Or.inl ⟨by rfl, ?_⟩) (by assumption) ?_
        rotate_left
        · intro w hSw; (try dsimp only at hSw); go_simp; try (with_reducible rfl)
        try simp only [Act.put, List.getElem_toArray, List.getElem_cons_zero, List.getElem_cons_succ, List.setIfInBounds_toArray, List.set_cons_zero, List.set_cons_succ]
        refine wpTop.take 2 (v := ?_) rfl (by kernel_rfl) (by kernel_rfl) (by kernel_rfl) (by kernel_rfl) (fun _ _ _ h => h) (Or.inl ⟨by rfl, ?_⟩) (by assumption) ?_
        rotate_left
        · intro w hSw; (try dsimp only at hSw); go_simp; try (with_reducible rfl)
        try simp only [Act.put, List.getElem_toArray, List.getElem_cons_zero, List.getElem_cons_succ, List.setIfInBounds_toArray, List.set_cons_zero, List.set_cons_succ]
        refine wpTop.take 4 (v := ?_) rfl (by kernel_rfl) (by kernel_rfl) (by kernel_rfl) (by kernel_rfl) (fun _ _ _ h => h) (Or.inl ⟨by rfl, ?_⟩) (by assumption) ?_
        rotate_left
        · intro w hSw; (try dsimp only at hSw); go_simp; try (with_reducible rfl)
        try simp only [Act.put, List.getElem_toArray, List.getElem_cons_zero, List.getElem_cons_succ, List.setIfInBounds_toArray, List.set_cons_zero, List.set_cons_succ]
        refine wpTop.take 5 (v := ?_) rfl (by kernel_rfl) (by kernel_rfl) (by kernel_rfl) (by kernel_rfl) (fun _ _ _ h => h) (Or.inl ⟨by rfl, ?_⟩) (by assumption) ?_
        rotate_left
        · intro w hSw; (try dsimp only at hSw); go_simp; try (with_reducible rfl)
        try simp only [Act.put, List.getElem_toArray, List.getElem_cons_zero, List.getElem_cons_succ, List.setIfInBounds_toArray, List.set_cons_zero, List.set_cons_succ]
        refine wpTop.take 6 (v := ?_) rfl (by kernel_rfl) (by kernel_rfl) (by kernel_rfl) (by kernel_rfl) (fun _ _ _ h => h) (Or.inl ⟨by rfl, ?_⟩) (by assumption) ?_
        rotate_left
        · intro w hSw; (try dsimp only at hSw); go_simp; try (with_reducible rfl)
        try simp only [Act.put, List.getElem_toArray, List.getElem_cons_zero, List.getElem_cons_succ, List.setIfInBounds_toArray, List.set_cons_zero, List.set_cons_succ]
        refine wpTop.duo 3 9 rfl rfl (by kernel_rfl) (fun K hK => ?_) (fun K hK => ?_)
        · go_simp
          (with_reducible refine (CA.out _).mono ?_)
          rintro e _ ⟨rfl, rfl⟩
          refine hK.out _ _ (fun _ => INV _ (by first | exact hd0 | exact hd0.alloc hd0.size _ | exact hda _ | exact below_set3 (hd0.alloc hd0.size _) _ _ _ | exact below_set3 (hda _) _ _ _)) (fun hH => ?_)
          clear hK K
          have hHeld := hH (by decide)
          clear hH
          try simp only [Act.put, List.getElem_toArray, List.getElem_cons_zero, List.getElem_cons_succ, List.setIfInBounds_toArray, List.set_cons_zero, List.set_cons_succ]
          refine wpTop.duo 7 9 rfl rfl (by kernel_rfl) (fun K hK => ?_) (fun K hK => ?_)
          · go_simp
            (with_reducible refine (CB.out _).mono ?_)
            rintro e _ ⟨rfl, rfl⟩
            refine hK.out _ _ (fun _ => INV _ (by first | exact hd0 | exact hd0.alloc hd0.size _ | exact hda _ | exact below_set3 (hd0.alloc hd0.size _) _ _ _ | exact below_set3 (hda _) _ _ _)) (fun hH => ?_)
            clear hK K
            have hHeld := hH (by decide)
            clear hH
            try simp only [Act.put, List.getElem_toArray, List.getElem_cons_zero, List.getElem_cons_succ, List.setIfInBounds_toArray, List.set_cons_zero, List.set_cons_succ]
            refine wpTop.take 8 (v := ?_) rfl (by kernel_rfl) (by kernel_rfl) (by kernel_rfl) (by kernel_rfl) (fun _ _ _ h => h) (Or.inl ⟨by rfl, ?_⟩) (by assumption) ?_
            rotate_left
            · intro w hSw; (try dsimp only at hSw); go_simp; try (with_reducible rfl)
            try simp only [Act.put, List.getElem_toArray, List.getElem_cons_zero, List.getElem_cons_succ, List.setIfInBounds_toArray, List.set_cons_zero, List.set_cons_succ]
            refine wpTop.one 9 rfl (by kernel_rfl) (fun K hK => ?_)
            go_simp
            refine hK.out _ _ (fun _ => INV _ (by first | exact hd0 | exact hd0.alloc hd0.size _ | exact hda _ | exact below_set3 (hd0.alloc hd0.size _) _ _ _ | exact below_set3 (hda _) _ _ _)) (fun hH => ?_)
            clear hK K
            have hHeld := hH (by decide)
            clear hH
            try simp only [Act.put, List.getElem_toArray, List.getElem_cons_zero, List.getElem_cons_succ, List.setIfInBounds_toArray, List.set_cons_zero, List.set_cons_succ]
            refine wpTop.one 10 rfl (by kernel_rfl) (fun K hK => ?_)
            go_simp
            refine hK.out _ _ (fun _ => INV _ (by first | exact hd0 | exact hd0.alloc hd0.size _ | exact hda _ | exact below_set3 (hd0.alloc hd0.size _) _ _ _ | exact below_set3 (hda _) _ _ _)) (fun hH => ?_)
            clear hK K
            have hHeld := hH (by decide)
            clear hH
            try simp only [Act.put, List.getElem_toArray, List.getElem_cons_zero, List.getElem_cons_succ, List.setIfInBounds_toArray, List.set_cons_zero, List.set_cons_succ]
            refine wpTop.all (by kernel_rfl) ?_ _
            go_wp2_with fail
            go_meet
            exact ⟨rfl, rfl⟩
          · go_simp
            refine hK.out _ _ (fun _ => INV _ (by first | exact hd0 | exact hd0.alloc hd0.size _ | exact hda _ | exact below_set3 (hd0.alloc hd0.size _) _ _ _ | exact below_set3 (hda _) _ _ _)) (fun hH => ?_)
            clear hK K
            have hHeld := hH (by decide)
            clear hH
            try simp only [Act.put, List.getElem_toArray, List.getElem_cons_zero, List.getElem_cons_succ, List.setIfInBounds_toArray, List.set_cons_zero, List.set_cons_succ]
            refine wpTop.one 7 rfl (by kernel_rfl) (fun K hK => ?_)
            go_simp
            (with_reducible refine (CB.out _).mono ?_)
            rintro e _ ⟨rfl, rfl⟩
            refine hK.out _ _ (fun _ => INV _ (by first | exact hd0 | exact hd0.alloc hd0.size _ | exact hda _ | exact below_set3 (hd0.alloc hd0.size _) _ _ _ | exact below_set3 (hda _) _ _ _)) (fun hH => ?_)
            clear hK K
            have hHeld := hH (by decide)
            clear hH
            try simp only [Act.put, List.getElem_toArray, List.getElem_cons_zero, List.getElem_cons_succ, List.setIfInBounds_toArray, List.set_cons_zero, List.set_cons_succ]
            refine wpTop.take 8 (v := ?_) rfl (by kernel_rfl) (by kernel_rfl) (by kernel_rfl) (by kernel_rfl) (fun _ _ _ h => h) (Or.inl ⟨by rfl, ?_⟩) (by assumption) ?_
            rotate_left
            · intro w hSw; (try dsimp only at hSw); go_simp; try (with_reducible rfl)
            try simp only [Act.put, List.getElem_toArray, List.getElem_cons_zero, List.getElem_cons_succ, List.setIfInBounds_toArray, List.set_cons_zero, List.set_cons_succ]
            refine wpTop.one 10 rfl (by kernel_rfl) (fun K hK => ?_)
            go_simp
            refine hK.out _ _ (fun _ => INV _ (by first | exact hd0 | exact hd0.alloc hd0.size _ | exact hda _ | exact below_set3 (hd0.alloc hd0.size _) _ _ _ | exact below_set3 (hda _) _ _ _)) (fun hH => ?_)
            clear hK K
            have hHeld := hH (by decide)
            clear hH
            try simp only [Act.put, List.getElem_toArray, List.getElem_cons_zero, List.getElem_cons_succ, List.setIfInBounds_toArray, List.set_cons_zero, List.set_cons_succ]
            refine wpTop.all (by kernel_rfl) ?_ _
            go_wp2_with fail
            go_meet
            exact ⟨rfl, rfl⟩
        · go_simp
          refine hK.out _ _ (fun _ => INV _ (by first | exact hd0 | exact hd0.alloc hd0.size _ | exact hda _ | exact below_set3 (hd0.alloc hd0.size _) _ _ _ | exact below_set3 (hda _) _ _ _)) (fun hH => ?_)
          clear hK K
          have hHeld := hH (by decide)
          clear hH
          try simp only [Act.put, List.getElem_toArray, List.getElem_cons_zero, List.getElem_cons_succ, List.setIfInBounds_toArray, List.set_cons_zero, List.set_cons_succ]
          refine wpTop.one 3 rfl (by kernel_rfl) (fun K hK => ?_)
          go_simp
          (with_reducible refine (CA.out _).mono ?_)
          rintro e _ ⟨rfl, rfl⟩
          refine hK.out _ _ (fun _ => INV _ (by first | exact hd0 | exact hd0.alloc hd0.size _ | exact hda _ | exact below_set3 (hd0.alloc hd0.size _) _ _ _ | exact below_set3 (hda _) _ _ _)) (fun hH => ?_)
          clear hK K
          have hHeld := hH (by decide)
          clear hH
          try simp only [Act.put, List.getElem_toArray, List.getElem_cons_zero, List.getElem_cons_succ, List.setIfInBounds_toArray, List.set_cons_zero, List.set_cons_succ]
          refine wpTop.one 7 rfl (by kernel_rfl) (fun K hK => ?_)
          go_simp
          (with_reducible refine (CB.out _).mono ?_)
          rintro e _ ⟨rfl, rfl⟩
          refine hK.out _ _ (fun _ => INV _ (by first | exact hd0 | exact hd0.alloc hd0.size _ | exact hda _ | exact below_set3 (hd0.alloc hd0.size _) _ _ _ | exact below_set3 (hda _) _ _ _)) (fun hH => ?_)
          clear hK K
          have hHeld := hH (by decide)
          clear hH
          try simp only [Act.put, List.getElem_toArray, List.getElem_cons_zero, List.getElem_cons_succ, List.setIfInBounds_toArray, List.set_cons_zero, List.set_cons_succ]
          refine wpTop.take 8 (v := ?_) rfl (by kernel_rfl) (by kernel_rfl) (by kernel_rfl) (by kernel_rfl) (fun _ _ _ h => h) (Or.inl ⟨by rfl, ?_⟩) (by assumption) ?_
          rotate_left
          · intro w hSw; (try dsimp only at hSw); go_simp; try (with_reducible rfl)
          try simp only [Act.put, List.getElem_toArray, List.getElem_cons_zero, List.getElem_cons_succ, List.setIfInBounds_toArray, List.set_cons_zero, List.set_cons_succ]
          refine wpTop.one 10 rfl (by kernel_rfl) (fun K hK => ?_)
          go_simp
          refine hK.out _ _ (fun _ => INV _ (by first | exact hd0 | exact hd0.alloc hd0.size _ | exact hda _ | exact below_set3 (hd0.alloc hd0.size _) _ _ _ | exact below_set3 (hda _) _ _ _)) (fun hH => ?_)
          clear hK K
          have hHeld := hH (by decide)
          clear hH
          try simp only [Act.put, List.getElem_toArray, List.getElem_cons_zero, List.getElem_cons_succ, List.setIfInBounds_toArray, List.set_cons_zero, List.set_cons_succ]
          refine wpTop.all (by kernel_rfl) ?_ _
          go_wp2_with fail
          go_meet
          exact ⟨rfl, rfl⟩
      case rest =>
        obtain ⟨rfl, rfl⟩ := hcut
        have hda : ∀ o, Below w3.heap.size w3 (w3.alloc o).drew := fun o => ((Below.refl _ _).alloc (Nat.le_refl _) o).drew
        have hbA : Below w3.heap.size w3 (w3.alloc (.cells #[.int .i64 (rdI a), .int .i64 (rdI b), .slice none 0 0] 30)).drew := hda _
        have PM0 : PM w.heap.size w3.heap.size (rdI a) (rdI b) g (T.length + 1) c (hh :: T) none 0 [] (w3.alloc (.cells #[.int .i64 (rdI a), .int .i64 (rdI b), .slice none 0 0] 30)).drew :=
          ⟨K3.next hbA, fun o => (hbA.frozen (p := ⟨w.heap.size, o, none⟩) K3.lt).trans (F3 o), K3.lt, ⟨by simp, by simp, by simp, by simp⟩, fun o => by simp, own_keep (own_base HO.out (by simp)) hbA, by omega, World.ownsRow_nil _ _ _ _⟩
        have BB := B3.trans (hbA.mono B3.size)
        obtain ⟨X, hX⟩ : ∃ X, X = rdI a := ⟨_, rfl⟩
        obtain ⟨Y, hY⟩ : ∃ Y, Y = rdI b := ⟨_, rfl⟩
        obtain ⟨g6, hg6⟩ : ∃ g6, g6 = w3.heap.size := ⟨_, rfl⟩
        obtain ⟨w5, hw5⟩ : ∃ w5, w5 = (w3.alloc (.cells #[.int .i64 (rdI a), .int .i64 (rdI b), .slice none 0 0] 30)).drew := ⟨_, rfl⟩
        rw [← hw5] at PM0 BB ⊢
        rw [← hg6, ← hX, ← hY] at PM0
        rw [← hg6]
        have HX := Lib.hid hX
        have HY := Lib.hid hY
        have hlg := PM0.lt
        clear hbA hda hX hY hg6 hw5 B3 K3 F3 kl k0 k1 k2 CA CB HO d0 d1 hlt2 hlt3 hcap3 ho'
        go_upto_region 8 with fail
        go_cut [34, 35, 36] (fun s1 s2 s3 wx => ∃ q, s1 = .slice q T.length (c - 1) ∧ (0 < T.length → q = some ⟨g, 1, none⟩) ∧ s2 = .int .i64 T.length ∧ s3 = .int .i64 0 ∧ wx = w5)
        case first =>
          go_wp2_with fail
          · subst h
            go_meet
            exact ⟨_, rfl, fun h => (by first | rfl | (exfalso; omega)), rfl, rfl, rfl⟩
          · go_meet
            exact ⟨_, rfl, fun h => (by first | rfl | (exfalso; omega)), rfl, rfl, rfl⟩
        obtain ⟨q, rfl, hq, rfl, rfl, rfl⟩ := hcut
        go_wp2_with fail
        go_loopw [36] (fun i wr => ∃ k A6 c6, ∃ L : List Sq, k ≤ T.length ∧ i = .int .i64 k ∧ sqsOf (T.take k) = some L ∧ PM w.heap.size g6 X Y g (T.length + 1) c (hh :: T) A6 c6 L wr ∧ Below w.heap.size w wr) (fun i _ => T.length - (intOf i).toNat)
        case atStart => exact ⟨0, none, 0, [], Nat.zero_le _, rfl, rfl, PM0, BB⟩
        case round =>
          obtain ⟨k, A6, c6, L, hk, rfl, hsq, hP, hbr⟩ := hrel
          clear PM0 BB
          by_cases hlt : k < T.length
          · obtain ⟨t, ht⟩ : ∃ t, T[k]? = some t := ⟨_, List.getElem?_eq_getElem hlt⟩
            have e0 := txs_at hP.parts (j := k + 1) (t := t) (by simpa using ht)
            have e0' : wr.cell? ⟨g, 1 + k, none⟩ = some (.string (bas t)) := by rw [Nat.add_comm]; exact e0
            have CT := Lib.hid (split_bas t 44 44 rfl (by have := hpl t (List.mem_cons_of_mem _ (List.mem_of_getElem? ht)); omega) wr)
            have i1 : (0 : Int) ≤ (k : Int) := by omega
            have i2 : (k : Int) < (T.length : Int) := by omega
            obtain rfl := hq (by omega)
            have HSQ := Lib.hid hsq
            have HT := Lib.hid ht
            clear hsq ht
            go_wp2_with fail
            all_goals (
              (with_reducible refine CT.out.mono ?_)
              rintro e w4 ⟨A4, c4, rfl, ho4, hb4⟩
              have hP4 := hP.keep hb4
              have hb44 := hbr.trans (hb4.mono hbr.size)
              by_cases h3 : (spl 44 t).length = 3
              · obtain ⟨a3, b3, c3, HS3⟩ : ∃ a3 b3 c3, spl 44 t = [a3, b3, c3] := by
                  match hs : spl 44 t, h3 with
                  | [a3, b3, c3], _ => exact ⟨a3, b3, c3, rfl⟩
                have hLle : L.length ≤ 1000 := by
                  have hlen : L.length = k := by have := sqsOf_len HSQ.out; rw [List.length_take] at this; omega
                  omega
                have hk1 : L.length + 1 ≤ maxLen := by unfold maxLen; omega
                have hk2 : (L.length + 1) * 24 ≤ 140737488355328 := by omega
                rw [HS3] at ho4 ⊢
                obtain ⟨g4, rfl⟩ := own_form ho4 (by simp)
                have e0 := txs_at ho4 (j := 0) (t := a3) rfl
                have e1 := txs_at ho4 (j := 1) (t := b3) rfl
                have e2 := txs_at ho4 (j := 2) (t := c3) rfl
                simp only [List.length_cons, List.length_nil, Nat.zero_add, Nat.reduceAdd] at e0 e1 e2 ho4 ⊢
                have hlt4 := own_lt ho4
                have hcap4 := own_cap ho4
                have C5 := Lib.hid (fun V => read_bas a3 V)
                have C9 := Lib.hid (fun V => read_bas b3 V)
                have C13 := Lib.hid (fun V => read_bas c3 V)
                have HS3 := Lib.hid HS3
                obtain ⟨i0, hi, hz0, hz1, hz2⟩ := info_parts infoSq
                have HO4 := Lib.hid ho4
                have HSL := Lib.hid (fun k hk => (hP.sq.lt k hk).2)
                clear CT ho4 hb4 hP
                go_wp2_with fail
                all_goals (
                  have HP4 := Lib.hid hP4
                  have INV : ∀ V, Below w4.heap.size w4 V → V.cell? ⟨g6, 2, none⟩ = some (.slice A6 L.length c6) ∧ V.cell? ⟨g4, 0, none⟩ = some (.string (bas a3)) ∧ V.cell? ⟨g4, 1, none⟩ = some (.string (bas b3)) ∧ V.cell? ⟨g4, 2, none⟩ = some (.string (bas c3)) := fun V hb => ⟨(HP4.out.keep hb).box.c2, (hb.cell (p := ⟨g4, 0, none⟩) hlt4.2).trans e0, (hb.cell (p := ⟨g4, 1, none⟩) hlt4.2).trans e1, (hb.cell (p := ⟨g4, 2, none⟩) hlt4.2).trans e2⟩
                  have hd4 : Below w4.heap.size w4 w4.drew := (Below.refl _ _).drew
                  refine wp_region_top 17 (fun w' => w'.cell? ⟨g6, 2, none⟩ = some (.slice A6 L.length c6) ∧ w'.cell? ⟨g4, 0, none⟩ = some (.string (bas a3)) ∧ w'.cell? ⟨g4, 1, none⟩ = some (.string (bas b3)) ∧ w'.cell? ⟨g4, 2, none⟩ = some (.string (bas c3))) (by kernel_rfl) (INV _ hd4) (fun hHeld => ?_)
                  refine wpTop.take 0 (v := ?_) rfl (by kernel_rfl) (by kernel_rfl) (by kernel_rfl) (by kernel_rfl) (fun _ _ _ h => h) (Or.inl ⟨by rfl, ?_⟩) (by assumption) ?_
                  rotate_left
                  · intro w hSw; (try dsimp only at hSw); go_simp; try (with_reducible rfl)
                  try simp only [Act.put, List.getElem_toArray, List.getElem_cons_zero, List.getElem_cons_succ, List.setIfInBounds_toArray, List.set_cons_zero, List.set_cons_succ]
                  refine wpTop.take 1 (v := ?_) rfl (by kernel_rfl) (by kernel_rfl) (by kernel_rfl) (by kernel_rfl) (fun _ _ _ h => h) (Or.inl ⟨by rfl, ?_⟩) (by assumption) ?_
                  rotate_left
                  · intro w hSw; (try dsimp only at hSw); go_simp; try (with_reducible rfl)
                  try simp only [Act.put, List.getElem_toArray, List.getElem_cons_zero, List.getElem_cons_succ, List.setIfInBounds_toArray, List.set_cons_zero, List.set_cons_succ]
                  refine wpTop.take 2 (v := ?_) rfl (by kernel_rfl) (by kernel_rfl) (by kernel_rfl) (by kernel_rfl) (fun _ _ _ h => h) (Or.inl ⟨by rfl, ?_⟩) (by assumption) ?_
                  rotate_left
                  · intro w hSw; (try dsimp only at hSw); go_simp; try (with_reducible rfl)
                  try simp only [Act.put, List.getElem_toArray, List.getElem_cons_zero, List.getElem_cons_succ, List.setIfInBounds_toArray, List.set_cons_zero, List.set_cons_succ]
                  refine wpTop.take 3 (v := ?_) rfl (by kernel_rfl) (by kernel_rfl) (by kernel_rfl) (by kernel_rfl) (fun _ _ _ h => h) (Or.inl ⟨by rfl, ?_⟩) (by assumption) ?_
                  rotate_left
                  · intro w hSw; (try dsimp only at hSw); go_simp; try (with_reducible rfl)
                  try simp only [Act.put, List.getElem_toArray, List.getElem_cons_zero, List.getElem_cons_succ, List.setIfInBounds_toArray, List.set_cons_zero, List.set_cons_succ]
                  refine wpTop.take 4 (v := ?_) rfl (by kernel_rfl) (by kernel_rfl) (by kernel_rfl) (by kernel_rfl) (fun _ _ _ h => h) (Or.inl ⟨by rfl, ?_⟩) (by assumption) ?_
                  rotate_left
                  · intro w hSw; (try dsimp only at hSw); go_simp; try (with_reducible rfl)
                  try simp only [Act.put, List.getElem_toArray, List.getElem_cons_zero, List.getElem_cons_succ, List.setIfInBounds_toArray, List.set_cons_zero, List.set_cons_succ]
                  refine wpTop.take 6 (v := ?_) rfl (by kernel_rfl) (by kernel_rfl) (by kernel_rfl) (by kernel_rfl) (fun _ _ _ h => h) (Or.inl ⟨by rfl, ?_⟩) (by assumption) ?_
                  rotate_left
                  · intro w hSw; (try dsimp only at hSw); go_simp; try (with_reducible rfl)
                  try simp only [Act.put, List.getElem_toArray, List.getElem_cons_zero, List.getElem_cons_succ, List.setIfInBounds_toArray, List.set_cons_zero, List.set_cons_succ]
                  refine wpTop.take 7 (v := ?_) rfl (by kernel_rfl) (by kernel_rfl) (by kernel_rfl) (by kernel_rfl) (fun _ _ _ h => h) (Or.inl ⟨by rfl, ?_⟩) (by assumption) ?_
                  rotate_left
                  · intro w hSw; (try dsimp only at hSw); go_simp; try (with_reducible rfl)
                  try simp only [Act.put, List.getElem_toArray, List.getElem_cons_zero, List.getElem_cons_succ, List.setIfInBounds_toArray, List.set_cons_zero, List.set_cons_succ]
                  refine wpTop.take 8 (v := ?_) rfl (by kernel_rfl) (by kernel_rfl) (by kernel_rfl) (by kernel_rfl) (fun _ _ _ h => h) (Or.inl ⟨by rfl, ?_⟩) (by assumption) ?_
                  rotate_left
                  · intro w hSw; (try dsimp only at hSw); go_simp; try (with_reducible rfl)
                  try simp only [Act.put, List.getElem_toArray, List.getElem_cons_zero, List.getElem_cons_succ, List.setIfInBounds_toArray, List.set_cons_zero, List.set_cons_succ]
                  refine wpTop.take 10 (v := ?_) rfl (by kernel_rfl) (by kernel_rfl) (by kernel_rfl) (by kernel_rfl) (fun _ _ _ h => h) (Or.inl ⟨by rfl, ?_⟩) (by assumption) ?_
                  rotate_left
                  · intro w hSw; (try dsimp only at hSw); go_simp; try (with_reducible rfl)
                  try simp only [Act.put, List.getElem_toArray, List.getElem_cons_zero, List.getElem_cons_succ, List.setIfInBounds_toArray, List.set_cons_zero, List.set_cons_succ]
                  refine wpTop.take 11 (v := ?_) rfl (by kernel_rfl) (by kernel_rfl) (by kernel_rfl) (by kernel_rfl) (fun _ _ _ h => h) (Or.inl ⟨by rfl, ?_⟩) (by assumption) ?_
                  rotate_left
                  · intro w hSw; (try dsimp only at hSw); go_simp; try (with_reducible rfl)
                  try simp only [Act.put, List.getElem_toArray, List.getElem_cons_zero, List.getElem_cons_succ, List.setIfInBounds_toArray, List.set_cons_zero, List.set_cons_succ]
                  refine wpTop.take 12 (v := ?_) rfl (by kernel_rfl) (by kernel_rfl) (by kernel_rfl) (by kernel_rfl) (fun _ _ _ h => h) (Or.inl ⟨by rfl, ?_⟩) (by assumption) ?_
                  rotate_left
                  · intro w hSw; (try dsimp only at hSw); go_simp; try (with_reducible rfl)
                  try simp only [Act.put, List.getElem_toArray, List.getElem_cons_zero, List.getElem_cons_succ, List.setIfInBounds_toArray, List.set_cons_zero, List.set_cons_succ]
                  refine wpTop.one 5 rfl (by kernel_rfl) (fun K hK => ?_)
                  go_simp
                  (with_reducible refine (C5.out _).mono ?_)
                  rintro e _ ⟨rfl, rfl⟩
                  refine hK.out _ _ (fun _ => INV _ (by first | exact hd4 | exact hd4.alloc hd4.size _)) (fun hH => ?_)
                  clear hK K
                  have hHeld := hH (by decide)
                  clear hH
                  try simp only [Act.put, List.getElem_toArray, List.getElem_cons_zero, List.getElem_cons_succ, List.setIfInBounds_toArray, List.set_cons_zero, List.set_cons_succ]
                  refine wpTop.one 9 rfl (by kernel_rfl) (fun K hK => ?_)
                  go_simp
                  (with_reducible refine (C9.out _).mono ?_)
                  rintro e _ ⟨rfl, rfl⟩
                  refine hK.out _ _ (fun _ => INV _ (by first | exact hd4 | exact hd4.alloc hd4.size _)) (fun hH => ?_)
                  clear hK K
                  have hHeld := hH (by decide)
                  clear hH
                  try simp only [Act.put, List.getElem_toArray, List.getElem_cons_zero, List.getElem_cons_succ, List.setIfInBounds_toArray, List.set_cons_zero, List.set_cons_succ]
                  refine wpTop.one 13 rfl (by kernel_rfl) (fun K hK => ?_)
                  go_simp
                  (with_reducible refine (C13.out _).mono ?_)
                  rintro e _ ⟨rfl, rfl⟩
                  refine hK.out _ _ (fun _ => INV _ (by first | exact hd4 | exact hd4.alloc hd4.size _)) (fun hH => ?_)
                  clear hK K
                  have hHeld := hH (by decide)
                  clear hH
                  try simp only [Act.put, List.getElem_toArray, List.getElem_cons_zero, List.getElem_cons_succ, List.setIfInBounds_toArray, List.set_cons_zero, List.set_cons_succ]
                  refine wpTop.take 14 (v := ?_) rfl (by kernel_rfl) (by kernel_rfl) (by kernel_rfl) (by kernel_rfl) (fun _ _ _ h => h) (Or.inl ⟨by rfl, ?_⟩) (by assumption) ?_
                  rotate_left
                  · intro w hSw; (try dsimp only at hSw); go_simp; try (with_reducible rfl)
                  try simp only [Act.put, List.getElem_toArray, List.getElem_cons_zero, List.getElem_cons_succ, List.setIfInBounds_toArray, List.set_cons_zero, List.set_cons_succ]
                  refine wpTop.one 15 rfl (by kernel_rfl) (fun K hK => ?_)
                  go_simp
                  refine hK.out _ _ (fun _ => INV _ (by first | exact hd4 | exact hd4.alloc hd4.size _)) (fun hH => ?_)
                  clear hK K
                  have hHeld := hH (by decide)
                  clear hH
                  try simp only [Act.put, List.getElem_toArray, List.getElem_cons_zero, List.getElem_cons_succ, List.setIfInBounds_toArray, List.set_cons_zero, List.set_cons_succ]
                  refine wpTop.one 16 rfl (by kernel_rfl) (fun K hK => ?_)
                  have hd5 : Below w4.heap.size w4 (w4.alloc (.cells #[.int .i64 (rdI a3), .int .i64 (rdI b3), .int .i64 (rdI c3)] 85)).drew := ((Below.refl _ _).alloc (Nat.le_refl _) _).drew
                  have P5 := HP4.out.keep hd5
                  refine app_step rfl _ _ _ rfl (g6 + 1) 85 i0 (.agg #[.int .i64 0, .int .i64 0, .int .i64 0]) 3 24 Tryd.underlying28 hi hz0 hz1 hz2 rfl (by decide) (.slice A6 L.length c6) L.length (flat L) rfl P5.sq (some ⟨w4.heap.size, 0, none⟩) 1 1 [.int .i64 (rdI a3), .int .i64 (rdI b3), .int .i64 (rdI c3)] rfl rfl (.inr ⟨_, rfl, new3 _ _ _ _ _⟩) (one3 _ _ _) hk1 hk2 (by have := P5.box.lt; omega) ?_
                  intro v' w6 hown6 hgrow hv6
                  obtain ⟨A7, c7, rfl⟩ := own_val hown6
                  have P6 := P5.push ⟨rdI a3, rdI b3, rdI c3⟩ hgrow hown6
                  have hne6 : (.slice A6 L.length c6 : Value).ownBlock ≠ some g6 := fun e => by have := (P5.sq.lt g6 e).1; omega
                  have q2 := (P5.box.far hgrow hne6).c2
                  have q3 := (hgrow.frozen_far ⟨g6, 2, none⟩ P5.box.lt (fun e => hne6 e.symm)).trans (P5.bf 2)
                  have q4 := P5.box.lt
                  have B5 := hb44.trans (hd5.mono hb44.size)
                  have B6 := B5.grown hgrow B5.size (fun k hk => by have := P5.sq.lt k hk; omega)
                  have B7 := B6.setCell (p := ⟨g6, 2, none⟩) (show w.heap.size ≤ g6 by omega) (.slice A7 (L.length + 1) c7)
                  have far4 := own_far (own_keep HO4.out hd5) hgrow (fun k hk e => by have := HO4.out.lt k hk; have := HSL.out k e; omega)
                  have y40 := txs_at far4 (j := 0) (t := a3) rfl
                  have y41 := txs_at far4 (j := 1) (t := b3) rfl
                  have y42 := txs_at far4 (j := 2) (t := c3) rfl
                  refine hK.out _ _ (fun _ => ⟨q2, y40, y41, y42⟩) (fun hH => ?_)
                  clear hK K hH
                  try simp only [Act.put, List.getElem_toArray, List.getElem_cons_zero, List.getElem_cons_succ, List.setIfInBounds_toArray, List.set_cons_zero, List.set_cons_succ]
                  refine wpTop.one 17 rfl (by kernel_rfl) (fun K hK => ?_)
                  go_simp
                  refine hK.out _ _ (fun h => absurd h (by decide)) (fun hH => ?_)
                  clear hK K hH
                  try simp only [Act.put, List.getElem_toArray, List.getElem_cons_zero, List.getElem_cons_succ, List.setIfInBounds_toArray, List.set_cons_zero, List.set_cons_succ]
                  refine wpTop.one 18 rfl (by kernel_rfl) (fun K hK => ?_)
                  go_simp
                  refine hK.out _ _ (fun h => absurd h (by decide)) (fun hH => ?_)
                  clear hK K hH
                  try simp only [Act.put, List.getElem_toArray, List.getElem_cons_zero, List.getElem_cons_succ, List.setIfInBounds_toArray, List.set_cons_zero, List.set_cons_succ]
                  refine wpTop.all (by kernel_rfl) ?_ _
                  go_wp2_with fail
                  go_roundw
                  case rel =>
                      exact ⟨k + 1, A7, c7, L ++ [⟨rdI a3, rdI b3, rdI c3⟩], by omega, by go_num, by rw [List.take_succ, HT.out, Option.toList_some, sqsOf_app, HSQ.out, sqo_yes HS3.out], P6, B7⟩
                  case measure => simp [intOf]; omega)
              · have z3 : ¬ (((spl 44 t).length : Nat) : Int) = 3 := by omega
                have hno : ∀ W H L, Good W H L → txC W.toNat H.toNat L ≠ l := fun W H L hG e => by
                  have h := cand_tx hG
                  rw [e] at h
                  unfold cand at h
                  rw [HR.out] at h
                  simp only at h
                  have hn : sqsOf T = none := sqsOf_bad (k := k + 1) (by omega) (by rw [List.take_succ, HT.out, Option.toList_some, sqsOf_app, HSQ.out, sqo_no h3])
                  rw [hn] at h
                  split at h
                  · rename_i h5; cases h5
                  · cases h
                have HN := Lib.hid hno
                obtain ⟨kl, k0, k1, k2⟩ := hP4.res
                have f0 := hP4.rf 0
                have f1 := hP4.rf 1
                have f2 := hP4.rf 2
                clear hno CT ho4 hb4 hP hP4
                go_wp2_with fail
                (try simp only [Exit.inBlock, Exit.then])
                refine bodyPost_ret (ret_cut (Bx.set3 ⟨kl, k0, k1, k2⟩ 0 0 none 0 0) rfl rfl) rfl ?_
                exact ⟨0, 0, none, 0, [], false, rfl, World.ownsRow_nil _ _ _ _, below_set3 hb44 _ _ _, fun h => (by cases h), fun _ => HN.out⟩)
          · obtain rfl : k = T.length := by omega
            have hsq2 : sqsOf T = some L := by rw [← hsq, List.take_length]
            have hcand : cand l = some (X, Y, L) := by unfold cand; rw [HR.out]; simp only; rw [HR2.out, hsq2, HX.out, HY.out]
            have hSq := sqs_of_own hP.sq
            have hcapL := own_cap hP.sq
            have KEEP : ∀ V, Below wr.heap.size wr V → (Below wr.heap.size wr V ∧ V.cell? ⟨g6, 0, none⟩ = some (.int .i64 X) ∧ V.cell? ⟨g6, 1, none⟩ = some (.int .i64 Y) ∧ V.cell? ⟨g6, 2, none⟩ = some (.slice A6 L.length c6) ∧ V.cell? ⟨w.heap.size, 0, none⟩ = some (.int .i64 0) ∧ V.cell? ⟨w.heap.size, 1, none⟩ = some (.int .i64 0) ∧ V.cell? ⟨w.heap.size, 2, none⟩ = some (.slice none 0 0) ∧ V.frozen? ⟨w.heap.size, 0, none⟩ = false ∧ V.frozen? ⟨w.heap.size, 1, none⟩ = false ∧ V.frozen? ⟨w.heap.size, 2, none⟩ = false) := fun V hb => by
              have P := hP.keep hb
              exact ⟨hb, P.box.c0, P.box.c1, P.box.c2, P.res.c0, P.res.c1, P.res.c2, P.rf 0, P.rf 1, P.rf 2⟩
            have KEEP2 : ∀ V V', (Below wr.heap.size wr V ∧ V.cell? ⟨g6, 0, none⟩ = some (.int .i64 X) ∧ V.cell? ⟨g6, 1, none⟩ = some (.int .i64 Y) ∧ V.cell? ⟨g6, 2, none⟩ = some (.slice A6 L.length c6) ∧ V.cell? ⟨w.heap.size, 0, none⟩ = some (.int .i64 0) ∧ V.cell? ⟨w.heap.size, 1, none⟩ = some (.int .i64 0) ∧ V.cell? ⟨w.heap.size, 2, none⟩ = some (.slice none 0 0) ∧ V.frozen? ⟨w.heap.size, 0, none⟩ = false ∧ V.frozen? ⟨w.heap.size, 1, none⟩ = false ∧ V.frozen? ⟨w.heap.size, 2, none⟩ = false) → Below V.heap.size V V' → (Below wr.heap.size wr V' ∧ V'.cell? ⟨g6, 0, none⟩ = some (.int .i64 X) ∧ V'.cell? ⟨g6, 1, none⟩ = some (.int .i64 Y) ∧ V'.cell? ⟨g6, 2, none⟩ = some (.slice A6 L.length c6) ∧ V'.cell? ⟨w.heap.size, 0, none⟩ = some (.int .i64 0) ∧ V'.cell? ⟨w.heap.size, 1, none⟩ = some (.int .i64 0) ∧ V'.cell? ⟨w.heap.size, 2, none⟩ = some (.slice none 0 0) ∧ V'.frozen? ⟨w.heap.size, 0, none⟩ = false ∧ V'.frozen? ⟨w.heap.size, 1, none⟩ = false ∧ V'.frozen? ⟨w.heap.size, 2, none⟩ = false) := fun V V' h hb => KEEP V' (h.1.trans (hb.mono h.1.size))
            have CG := fun V (h : (Below wr.heap.size wr V ∧ V.cell? ⟨g6, 0, none⟩ = some (.int .i64 X) ∧ V.cell? ⟨g6, 1, none⟩ = some (.int .i64 Y) ∧ V.cell? ⟨g6, 2, none⟩ = some (.slice A6 L.length c6) ∧ V.cell? ⟨w.heap.size, 0, none⟩ = some (.int .i64 0) ∧ V.cell? ⟨w.heap.size, 1, none⟩ = some (.int .i64 0) ∧ V.cell? ⟨w.heap.size, 2, none⟩ = some (.slice none 0 0) ∧ V.frozen? ⟨w.heap.size, 0, none⟩ = false ∧ V.frozen? ⟨w.heap.size, 1, none⟩ = false ∧ V.frozen? ⟨w.heap.size, 2, none⟩ = false)) => cuGood_any X Y A6 L.length c6 L V rfl hcapL (sqs_of_own (hP.keep h.1).sq)
            by_cases hG : Good X Y L
            · have CG := fun V (h : (Below wr.heap.size wr V ∧ V.cell? ⟨g6, 0, none⟩ = some (.int .i64 X) ∧ V.cell? ⟨g6, 1, none⟩ = some (.int .i64 Y) ∧ V.cell? ⟨g6, 2, none⟩ = some (.slice A6 L.length c6) ∧ V.cell? ⟨w.heap.size, 0, none⟩ = some (.int .i64 0) ∧ V.cell? ⟨w.heap.size, 1, none⟩ = some (.int .i64 0) ∧ V.cell? ⟨w.heap.size, 2, none⟩ = some (.slice none 0 0) ∧ V.frozen? ⟨w.heap.size, 0, none⟩ = false ∧ V.frozen? ⟨w.heap.size, 1, none⟩ = false ∧ V.frozen? ⟨w.heap.size, 2, none⟩ = false)) => callB_yes (CG V h) hG
              have hs := good_sm hG
              have hn30 : L.length ≤ 30 := hG.2.2.1.2
              have hXX := hG.1
              have hYY := hG.2.1
              have CT := fun V (h : (Below wr.heap.size wr V ∧ V.cell? ⟨g6, 0, none⟩ = some (.int .i64 X) ∧ V.cell? ⟨g6, 1, none⟩ = some (.int .i64 Y) ∧ V.cell? ⟨g6, 2, none⟩ = some (.slice A6 L.length c6) ∧ V.cell? ⟨w.heap.size, 0, none⟩ = some (.int .i64 0) ∧ V.cell? ⟨w.heap.size, 1, none⟩ = some (.int .i64 0) ∧ V.cell? ⟨w.heap.size, 2, none⟩ = some (.slice none 0 0) ∧ V.frozen? ⟨w.heap.size, 0, none⟩ = false ∧ V.frozen? ⟨w.heap.size, 1, none⟩ = false ∧ V.frozen? ⟨w.heap.size, 2, none⟩ = false)) => cuText_any X Y A6 L.length c6 L V rfl (by omega) (by omega) (by omega) (sqs_of_own (hP.keep h.1).sq) hs
              obtain ⟨SC, hSC⟩ : ∃ SC, bas (txC X.toNat Y.toNat L) = SC := ⟨_, rfl⟩
              rw [hSC] at CT
              obtain ⟨be, hbe⟩ : ∃ be, (SC.toList == S.toList) = be := ⟨_, rfl⟩
              have hyes : be = true → Good X Y L ∧ txC X.toNat Y.toNat L = l := fun e => by
                rw [← hbe, ← hSC, ← HS.out, ByteArray.toList_eq, ByteArray.toList_eq, bas_list, bas_list] at e
                exact ⟨hG, by simpa using e⟩
              have hno : be = false → ∀ W H M, Good W H M → txC W.toNat H.toNat M ≠ l := fun e W H M hG' e2 => by
                have h := cand_tx hG'
                rw [e2, hcand] at h
                cases h
                rw [← hbe, ← hSC, ← HS.out, ByteArray.toList_eq, ByteArray.toList_eq, bas_list, bas_list] at e
                simp [e2] at e
              have HY2 := Lib.hid hyes
              have HN := Lib.hid hno
              clear hSC hyes hno
              have HK := Lib.hid hP
              have HG := Lib.hid hG
              clear hcand hG hP hSq hsq hsq2
              go_wp2_with fail
              have h0 := KEEP _ (Below.refl wr.heap.size wr).drew
              refine wp_region_top 11 (fun w' => w'.cell? ⟨g6, 0, none⟩ = some (.int .i64 X) ∧ w'.cell? ⟨g6, 1, none⟩ = some (.int .i64 Y) ∧ w'.cell? ⟨g6, 2, none⟩ = some (.slice A6 L.length c6)) (by kernel_rfl) ⟨h0.2.1, h0.2.2.1, h0.2.2.2.1⟩ (fun hHeld => ?_)
              refine wpTop.take 0 (v := ?_) rfl (by kernel_rfl) (by kernel_rfl) (by kernel_rfl) (by kernel_rfl) (fun _ _ _ h => h) (Or.inl ⟨by rfl, ?_⟩) (by assumption) ?_
              rotate_left
              · intro w hSw; (try dsimp only at hSw); go_simp; try (with_reducible rfl)
              try simp only [Act.put, List.getElem_toArray, List.getElem_cons_zero, List.getElem_cons_succ, List.setIfInBounds_toArray, List.set_cons_zero, List.set_cons_succ]
              refine wpTop.take 1 (v := ?_) rfl (by kernel_rfl) (by kernel_rfl) (by kernel_rfl) (by kernel_rfl) (fun _ _ _ h => h) (Or.inl ⟨by rfl, ?_⟩) (by assumption) ?_
              rotate_left
              · intro w hSw; (try dsimp only at hSw); go_simp; try (with_reducible rfl)
              try simp only [Act.put, List.getElem_toArray, List.getElem_cons_zero, List.getElem_cons_succ, List.setIfInBounds_toArray, List.set_cons_zero, List.set_cons_succ]
              refine wpTop.one 2 rfl (by kernel_rfl) (fun K hK => ?_)
              go_simp
              (with_reducible refine (CG _ h0).mono ?_)
              rintro e w7 ⟨rfl, hb7⟩
              have h7 := KEEP2 _ _ h0 hb7
              refine hK.out _ _ (fun _ => ⟨h7.2.1, h7.2.2.1, h7.2.2.2.1⟩) (fun hH => ?_)
              clear hK K
              have hHeld := hH (by decide)
              clear hH
              try simp only [Act.put, List.getElem_toArray, List.getElem_cons_zero, List.getElem_cons_succ, List.setIfInBounds_toArray, List.set_cons_zero, List.set_cons_succ]
              refine wpTop.take 3 (v := ?_) rfl (by kernel_rfl) (by kernel_rfl) (by kernel_rfl) (by kernel_rfl) (fun _ _ _ h => h) (Or.inl ⟨by rfl, ?_⟩) (by assumption) ?_
              rotate_left
              · intro w hSw; (try dsimp only at hSw); go_simp; try (with_reducible rfl)
              try simp only [Act.put, List.getElem_toArray, List.getElem_cons_zero, List.getElem_cons_succ, List.setIfInBounds_toArray, List.set_cons_zero, List.set_cons_succ]
              refine wpTop.take 4 (v := ?_) rfl (by kernel_rfl) (by kernel_rfl) (by kernel_rfl) (by kernel_rfl) (fun _ _ _ h => h) (Or.inl ⟨by rfl, ?_⟩) (by assumption) ?_
              rotate_left
              · intro w hSw; (try dsimp only at hSw); go_simp; try (with_reducible rfl)
              try simp only [Act.put, List.getElem_toArray, List.getElem_cons_zero, List.getElem_cons_succ, List.setIfInBounds_toArray, List.set_cons_zero, List.set_cons_succ]
              refine wpTop.take 6 (v := ?_) rfl (by kernel_rfl) (by kernel_rfl) (by kernel_rfl) (by kernel_rfl) (fun _ _ _ h => h) (Or.inl ⟨by rfl, ?_⟩) (by assumption) ?_
              rotate_left
              · intro w hSw; (try dsimp only at hSw); go_simp; try (with_reducible rfl)
              try simp only [Act.put, List.getElem_toArray, List.getElem_cons_zero, List.getElem_cons_succ, List.setIfInBounds_toArray, List.set_cons_zero, List.set_cons_succ]
              refine wpTop.one 5 rfl (by kernel_rfl) (fun K hK => ?_)
              go_simp
              (with_reducible refine (CT _ h7).mono ?_)
              rintro e w8 ⟨rfl, hb8⟩
              have h8 := KEEP2 _ _ h7 hb8
              refine hK.out _ _ (fun _ => ⟨h8.2.1, h8.2.2.1, h8.2.2.2.1⟩) (fun hH => ?_)
              clear hK K
              have hHeld := hH (by decide)
              clear hH
              try simp only [Act.put, List.getElem_toArray, List.getElem_cons_zero, List.getElem_cons_succ, List.setIfInBounds_toArray, List.set_cons_zero, List.set_cons_succ]
              refine wpTop.take 7 (v := ?_) rfl (by kernel_rfl) (by kernel_rfl) (by kernel_rfl) (by kernel_rfl) (fun _ _ _ h => h) (Or.inl ⟨by rfl, ?_⟩) (by assumption) ?_
              rotate_left
              · intro w hSw; (try dsimp only at hSw); go_simp; try (with_reducible rfl)
              try simp only [Act.put, List.getElem_toArray, List.getElem_cons_zero, List.getElem_cons_succ, List.setIfInBounds_toArray, List.set_cons_zero, List.set_cons_succ]
              refine wpTop.take 8 (v := ?_) rfl (by kernel_rfl) (by kernel_rfl) (by kernel_rfl) (by kernel_rfl) (fun _ _ _ h => h) (Or.inl ⟨by rfl, ?_⟩) (by assumption) ?_
              rotate_left
              · intro w hSw; (try dsimp only at hSw); go_simp; try (with_reducible rfl)
              try simp only [Act.put, List.getElem_toArray, List.getElem_cons_zero, List.getElem_cons_succ, List.setIfInBounds_toArray, List.set_cons_zero, List.set_cons_succ]
              obtain ⟨hbE, x0, x1, x2, k0, k1, k2, f0, f1, f2⟩ := h8
              refine wpTop.one 9 rfl (by kernel_rfl) (fun K hK => ?_)
              go_simp
              refine hK.out _ _ (fun _ => ⟨by simp [go_sem, *], by simp [go_sem, *], by simp [go_sem, *]⟩) (fun hH => ?_)
              clear hK K
              have hHeld := hH (by decide)
              clear hH
              try simp only [Act.put, List.getElem_toArray, List.getElem_cons_zero, List.getElem_cons_succ, List.setIfInBounds_toArray, List.set_cons_zero, List.set_cons_succ]
              refine wpTop.take 10 (v := ?_) rfl (by kernel_rfl) (by kernel_rfl) (by kernel_rfl) (by kernel_rfl) (fun _ _ _ h => h) (Or.inl ⟨by rfl, ?_⟩) (by assumption) ?_
              rotate_left
              · intro w hSw; (try dsimp only at hSw); go_simp; try (with_reducible rfl)
              try simp only [Act.put, List.getElem_toArray, List.getElem_cons_zero, List.getElem_cons_succ, List.setIfInBounds_toArray, List.set_cons_zero, List.set_cons_succ]
              refine wpTop.all (by kernel_rfl) ?_ _
              go_wp2_with fail
              (try simp only [Exit.inBlock, Exit.then])
              refine bodyPost_ret (ret_cut (Bx.set3 ⟨by have := hbE.size; have := HK.out.res.lt; omega, k0, k1, k2⟩ X Y A6 L.length c6) rfl rfl) rfl ?_
              exact ⟨X, Y, A6, c6, L, _, rfl, own_base (ownsRow_setCell_below (ownsRow_setCell_below (ownsRow_setCell_below (HK.out.keep hbE).sq (by show w.heap.size < g6 + 1; omega) _) (by show w.heap.size < g6 + 1; omega) _) (by show w.heap.size < g6 + 1; omega) _) (by omega), below_set3 (hbr.trans (hbE.mono hbr.size)) _ _ _, HY2.out, HN.out⟩
            · have CG := fun V (h : (Below wr.heap.size wr V ∧ V.cell? ⟨g6, 0, none⟩ = some (.int .i64 X) ∧ V.cell? ⟨g6, 1, none⟩ = some (.int .i64 Y) ∧ V.cell? ⟨g6, 2, none⟩ = some (.slice A6 L.length c6) ∧ V.cell? ⟨w.heap.size, 0, none⟩ = some (.int .i64 0) ∧ V.cell? ⟨w.heap.size, 1, none⟩ = some (.int .i64 0) ∧ V.cell? ⟨w.heap.size, 2, none⟩ = some (.slice none 0 0) ∧ V.frozen? ⟨w.heap.size, 0, none⟩ = false ∧ V.frozen? ⟨w.heap.size, 1, none⟩ = false ∧ V.frozen? ⟨w.heap.size, 2, none⟩ = false)) => callB_no (CG V h) hG
              have hno : ∀ W H M, Good W H M → txC W.toNat H.toNat M ≠ l := fun W H M hG' e => by
                have h := cand_tx hG'
                rw [e, hcand] at h
                cases h
                exact hG hG'
              have HN := Lib.hid hno
              have HK := Lib.hid hP
              clear hno hcand hG hP hSq hsq hsq2
              go_wp2_with fail
              have h0 := KEEP _ (Below.refl wr.heap.size wr).drew
              refine wp_region_top 11 (fun w' => w'.cell? ⟨g6, 0, none⟩ = some (.int .i64 X) ∧ w'.cell? ⟨g6, 1, none⟩ = some (.int .i64 Y) ∧ w'.cell? ⟨g6, 2, none⟩ = some (.slice A6 L.length c6)) (by kernel_rfl) ⟨h0.2.1, h0.2.2.1, h0.2.2.2.1⟩ (fun hHeld => ?_)
              refine wpTop.take 0 (v := ?_) rfl (by kernel_rfl) (by kernel_rfl) (by kernel_rfl) (by kernel_rfl) (fun _ _ _ h => h) (Or.inl ⟨by rfl, ?_⟩) (by assumption) ?_
              rotate_left
              · intro w hSw; (try dsimp only at hSw); go_simp; try (with_reducible rfl)
              try simp only [Act.put, List.getElem_toArray, List.getElem_cons_zero, List.getElem_cons_succ, List.setIfInBounds_toArray, List.set_cons_zero, List.set_cons_succ]
              refine wpTop.take 1 (v := ?_) rfl (by kernel_rfl) (by kernel_rfl) (by kernel_rfl) (by kernel_rfl) (fun _ _ _ h => h) (Or.inl ⟨by rfl, ?_⟩) (by assumption) ?_
              rotate_left
              · intro w hSw; (try dsimp only at hSw); go_simp; try (with_reducible rfl)
              try simp only [Act.put, List.getElem_toArray, List.getElem_cons_zero, List.getElem_cons_succ, List.setIfInBounds_toArray, List.set_cons_zero, List.set_cons_succ]
              refine wpTop.one 2 rfl (by kernel_rfl) (fun K hK => ?_)
              go_simp
              (with_reducible refine (CG _ h0).mono ?_)
              rintro e w7 ⟨rfl, hb7⟩
              have h7 := KEEP2 _ _ h0 hb7
              refine hK.out _ _ (fun _ => ⟨h7.2.1, h7.2.2.1, h7.2.2.2.1⟩) (fun hH => ?_)
              clear hK K
              have hHeld := hH (by decide)
              clear hH
              try simp only [Act.put, List.getElem_toArray, List.getElem_cons_zero, List.getElem_cons_succ, List.setIfInBounds_toArray, List.set_cons_zero, List.set_cons_succ]
              refine wpTop.take 3 (v := ?_) rfl (by kernel_rfl) (by kernel_rfl) (by kernel_rfl) (by kernel_rfl) (fun _ _ _ h => h) (Or.inl ⟨by rfl, ?_⟩) (by assumption) ?_
              rotate_left
              · intro w hSw; (try dsimp only at hSw); go_simp; try (with_reducible rfl)
              try simp only [Act.put, List.getElem_toArray, List.getElem_cons_zero, List.getElem_cons_succ, List.setIfInBounds_toArray, List.set_cons_zero, List.set_cons_succ]
              refine wpTop.take 4 (v := undef) rfl (by kernel_rfl) (by kernel_rfl) (by kernel_rfl) (by kernel_rfl) (fun _ _ _ h => h) (Or.inr ⟨by rfl, rfl⟩) (by assumption) ?_
              try simp only [Act.put, List.getElem_toArray, List.getElem_cons_zero, List.getElem_cons_succ, List.setIfInBounds_toArray, List.set_cons_zero, List.set_cons_succ]
              refine wpTop.take 6 (v := undef) rfl (by kernel_rfl) (by kernel_rfl) (by kernel_rfl) (by kernel_rfl) (fun _ _ _ h => h) (Or.inr ⟨by rfl, rfl⟩) (by assumption) ?_
              try simp only [Act.put, List.getElem_toArray, List.getElem_cons_zero, List.getElem_cons_succ, List.setIfInBounds_toArray, List.set_cons_zero, List.set_cons_succ]
              refine wpTop.one 5 rfl (by kernel_rfl) (fun K hK => ?_)
              go_simp
              refine hK.out _ _ (fun _ => ⟨h7.2.1, h7.2.2.1, h7.2.2.2.1⟩) (fun hH => ?_)
              clear hK K
              have hHeld := hH (by decide)
              clear hH
              try simp only [Act.put, List.getElem_toArray, List.getElem_cons_zero, List.getElem_cons_succ, List.setIfInBounds_toArray, List.set_cons_zero, List.set_cons_succ]
              refine wpTop.take 7 (v := undef) rfl (by kernel_rfl) (by kernel_rfl) (by kernel_rfl) (by kernel_rfl) (fun _ _ _ h => h) (Or.inr ⟨by rfl, rfl⟩) (by assumption) ?_
              try simp only [Act.put, List.getElem_toArray, List.getElem_cons_zero, List.getElem_cons_succ, List.setIfInBounds_toArray, List.set_cons_zero, List.set_cons_succ]
              refine wpTop.take 8 (v := ?_) rfl (by kernel_rfl) (by kernel_rfl) (by kernel_rfl) (by kernel_rfl) (fun _ _ _ h => h) (Or.inl ⟨by rfl, ?_⟩) (by assumption) ?_
              rotate_left
              · intro w hSw; (try dsimp only at hSw); go_simp; try (with_reducible rfl)
              try simp only [Act.put, List.getElem_toArray, List.getElem_cons_zero, List.getElem_cons_succ, List.setIfInBounds_toArray, List.set_cons_zero, List.set_cons_succ]
              obtain ⟨hbE, x0, x1, x2, k0, k1, k2, f0, f1, f2⟩ := h7
              refine wpTop.one 9 rfl (by kernel_rfl) (fun K hK => ?_)
              go_simp
              refine hK.out _ _ (fun _ => ⟨by simp [go_sem, *], by simp [go_sem, *], by simp [go_sem, *]⟩) (fun hH => ?_)
              clear hK K
              have hHeld := hH (by decide)
              clear hH
              try simp only [Act.put, List.getElem_toArray, List.getElem_cons_zero, List.getElem_cons_succ, List.setIfInBounds_toArray, List.set_cons_zero, List.set_cons_succ]
              refine wpTop.take 10 (v := ?_) rfl (by kernel_rfl) (by kernel_rfl) (by kernel_rfl) (by kernel_rfl) (fun _ _ _ h => h) (Or.inl ⟨by rfl, ?_⟩) (by assumption) ?_
              rotate_left
              · intro w hSw; (try dsimp only at hSw); go_simp; try (with_reducible rfl)
              try simp only [Act.put, List.getElem_toArray, List.getElem_cons_zero, List.getElem_cons_succ, List.setIfInBounds_toArray, List.set_cons_zero, List.set_cons_succ]
              refine wpTop.all (by kernel_rfl) ?_ _
              go_wp2_with fail
              (try simp only [Exit.inBlock, Exit.then])
              refine bodyPost_ret (ret_cut (Bx.set3 ⟨by have := hbE.size; have := HK.out.res.lt; omega, k0, k1, k2⟩ X Y A6 L.length c6) rfl rfl) rfl ?_
              exact ⟨X, Y, A6, c6, L, _, rfl, own_base (ownsRow_setCell_below (ownsRow_setCell_below (ownsRow_setCell_below (HK.out.keep hbE).sq (by show w.heap.size < g6 + 1; omega) _) (by show w.heap.size < g6 + 1; omega) _) (by show w.heap.size < g6 + 1; omega) _) (by omega), below_set3 (hbr.trans (hbE.mono hbr.size)) _ _ _, fun h => (by cases h), fun _ => HN.out⟩
    · have z2 : ¬ ((R2.length : Int) = 2) := by omega
      have hno : ∀ W H L, Good W H L → txC W.toNat H.toNat L ≠ l := fun W H L hG e => by
        have h := cand_tx hG
        rw [e] at h
        unfold cand at h
        rw [HR.out] at h
        simp only at h
        rw [HR2.out] at h
        match R2, h2, h with
        | [], _, h => cases h
        | [_], _, h => cases h
        | [_, _], h2, _ => exact h2 rfl
        | _ :: _ :: _ :: _, _, h => cases h
      have HN := Lib.hid hno
      obtain ⟨kl, k0, k1, k2⟩ := id K3
      have f0 := F3 0
      have f1 := F3 1
      have f2 := F3 2
      have r0 : w3.ownsRow w.heap.size 85 3 (.slice none 0 0) 0 (flat []) := World.ownsRow_nil _ _ _ _
      clear hno HC2 ho ho' ho3 hb3 K2 B2 F3 F2
      go_wp2_with fail
      (try simp only [Exit.inBlock, Exit.then])
      refine bodyPost_ret (ret_cut (Bx.set3 ⟨kl, k0, k1, k2⟩ 0 0 none 0 0) rfl rfl) rfl ?_
      exact ⟨0, 0, none, 0, [], false, rfl, World.ownsRow_nil _ _ _ _, below_set3 B3 _ _ _, fun h => (by cases h), fun _ => HN.out⟩
end Go.Proofs.YtbkfenhiaedlgaaDoor
