/- The model's reading of a puzzle's text. -/
import Derived.Test.YtbkfenhiaedlgaaDoorPzPm
import Derived.Test.YtbkfenhiaedlgaaDoorSplW
import Derived.Test.YtbkfenhiaedlgaaDoorPzD
import Derived.Test.YtbkfenhiaedlgaaDoorPc
import Derived.Deep.DeepCutAuto
set_option linter.all false
namespace Go.Proofs.YtbkfenhiaedlgaaDoor
open Go.RowKit

/-- What pzParse returns. -/
def RetPq (w : World) (l : List UInt8) (e : Ending) (w' : World) : Prop :=
  ∃ W H A c, ∃ L : List Sq, ∃ ok : Bool, e = .returned (.tuple #[.agg #[.int .i64 W, .int .i64 H, .slice A L.length c], .bool ok]) ∧ w'.ownsRow w.heap.size 122 3 (.slice A L.length c) L.length (flat L) ∧ Below w.heap.size w w' ∧
    (ok = true → GoodP W H L ∧ ptx W.toNat H.toNat L = l) ∧ (ok = false → ∀ W H L, GoodP W H L → ptx W.toNat H.toNat L ≠ l)
set_option maxRecDepth 100000 in
/-- A puzzle in its result's cell, and a bool. -/
theorem ret_pz {tmps : Array Value} {w : World} {B : Nat} {W H : Int} {A : Option Addr} {n c : Nat} {b : Bool} (K : Bx B w W H A n c) (hp : tmps.getD 2 undef = .pointer (some ⟨B, 0, none⟩)) (hu : tmps.getD 3 undef = .bool b) :
    (results Tryd.f88 tmps).run Tryd.prog w = .ok (.tuple #[.agg #[.int .i64 W, .int .i64 H, .slice A n c], .bool b]) w := by
  have c0 := K.c0
  have c1 := K.c1
  have c2 := K.c2
  rw [results_cell_tmp rfl, hp, hu]
  simp [go_sem, c0, c1, c2]
theorem candP_two {l : List UInt8} (h : (spl 58 l).length ≠ 2) : candP l = none := by
  unfold candP
  match hs : spl 58 l with
  | [] => rfl
  | [_] => rfl
  | [_, _] => rw [hs] at h; exact absurd rfl h
  | _ :: _ :: _ :: _ => rfl
theorem candP_size {l h q : List UInt8} (hl : spl 58 l = [h, q]) (h2 : (spl 120 h).length ≠ 2) : candP l = none := by
  unfold candP
  rw [hl]
  simp only
  match hs : spl 120 h with
  | [] => rfl
  | [_] => rfl
  | [_, _] => rw [hs] at h2; exact absurd rfl h2
  | _ :: _ :: _ :: _ => rfl
theorem candP_yes {l h q a b : List UInt8} {L : List Sq} (hl : spl 58 l = [h, q]) (h2 : spl 120 h = [a, b]) (hq : clsQ q = some L) : candP l = some (rdI a, rdI b, L) := by
  unfold candP; rw [hl]; simp only; rw [h2, hq]
theorem candP_cls {l h q a b : List UInt8} (hl : spl 58 l = [h, q]) (h2 : spl 120 h = [a, b]) (hq : clsQ q = none) : candP l = none := by
  unfold candP; rw [hl]; simp only; rw [h2, hq]
theorem noP_of {l : List UInt8} (h : candP l = none) : ∀ W H L, GoodP W H L → ptx W.toNat H.toNat L ≠ l := fun W H L hG e => by
  have h2 := cand_ptx hG
  rw [e, h] at h2; cases h2
set_option maxRecDepth 100000 in
set_option maxHeartbeats 8000000 in
theorem pzParse_any (l : List UInt8) (hl : l.length ≤ 1048576) (w : World) : Calls Tryd.prog 88 #[.string (bas l)] w (RetPq w l) := by
  have B0 : Below w.heap.size w (w.alloc (.cells #[.int .i64 0, .int .i64 0, .slice none 0 0] 65)) := (Below.refl _ _).alloc (Nat.le_refl _) _
  have K0 := Bx.start w 0 0 none 0 0 65
  have hsz := bas_size l
  have C1 := split_basW l 58 58 rfl (by omega) (w.alloc (.cells #[.int .i64 0, .int .i64 0, .slice none 0 0] 65))
  have hpl := spl_len 58 l
  have HTWO := Lib.hid (fun h => noP_of (candP_two (l := l) h))
  have HSIZE := Lib.hid (fun h q (hl : spl 58 l = [h, q]) h2 => noP_of (candP_size hl h2))
  have HCLS := Lib.hid (fun h q a b (hl : spl 58 l = [h, q]) h2 hq => noP_of (candP_cls (a := a) (b := b) hl h2 hq))
  have HYES := Lib.hid (fun h q a b L (hl : spl 58 l = [h, q]) h2 hq => candP_yes (a := a) (b := b) (L := L) hl h2 hq)
  have HLONG : Hid (100 < l.length → ∀ W H L, GoodP W H L → ptx W.toNat H.toNat L ≠ l) := Lib.hid (fun h W H L hG e => by have := ptx_100 hG; rw [e] at this; omega)
  obtain ⟨R0, hR0⟩ : ∃ R0, spl 58 l = R0 := ⟨_, rfl⟩
  rw [hR0] at C1 hpl
  have HR0 := Lib.hid hR0
  obtain ⟨S, hS⟩ : ∃ S, bas l = S := ⟨_, rfl⟩
  rw [hS] at hsz C1 ⊢
  have HS := Lib.hid hS
  have HC1 := Lib.hid C1
  clear C1 hS hR0
  by_cases hlen : 100 < l.length
  · have z1 : (100 : Int) < (S.size : Int) := by omega
    have HN := Lib.hid (HLONG.out hlen)
    go_enter Tryd.func88, Tryd.ntmps88
    go_wp2_with fail
    (with_reducible refine HC1.out.mono ?_)
    rintro e w2 ⟨A, c, rfl, ho, hb2⟩
    have K2 := K0.next hb2
    have F2 : ∀ o, w2.frozen? ⟨w.heap.size, o, none⟩ = false := fun o => (hb2.frozen (p := ⟨w.heap.size, o, none⟩) K0.lt).trans (by simp)
    have B2 := B0.trans (hb2.mono B0.size)
    obtain ⟨kl, k0, k1, k2⟩ := id K2
    have f0 := F2 0
    have f1 := F2 1
    have f2 := F2 2
    clear HC1 ho hb2
    go_wp2_with fail
    (try simp only [Exit.inBlock, Exit.then])
    refine bodyPost_ret (ret_pz (Bx.set3 ⟨kl, k0, k1, k2⟩ 0 0 none 0 0) rfl rfl) rfl ?_
    exact ⟨0, 0, none, 0, [], false, rfl, World.ownsRow_nil _ _ _ _, below_set3 B2 _ _ _, fun h => (by cases h), fun _ => HN.out⟩
  · have z1 : ¬ (100 : Int) < (S.size : Int) := by omega
    by_cases hp2 : R0.length = 2
    · obtain ⟨hh, q, rfl⟩ : ∃ hh q, R0 = [hh, q] := by
        match R0, hp2 with
        | [hh, q], _ => exact ⟨hh, q, rfl⟩
      have hqlen := hpl q (by simp)
      have HC2 := Lib.hid (fun V => split_basW hh 120 120 rfl (by have := hpl hh (by simp); omega) V)
      have hpl2 := spl_len 120 hh
      have HSZ := Lib.hid (fun h2 => HSIZE.out hh q HR0.out h2)
      have HCL := Lib.hid (fun a b h2 hq => HCLS.out hh q a b HR0.out h2 hq)
      have HYE := Lib.hid (fun a b L h2 hq => HYES.out hh q a b L HR0.out h2 hq)
      obtain ⟨R2, hR2⟩ : ∃ R2, spl 120 hh = R2 := ⟨_, rfl⟩
      rw [hR2] at HC2 hpl2 HSZ HCL HYE
      clear hR2 HSIZE HCLS HYES HTWO HLONG hp2
      go_enter Tryd.func88, Tryd.ntmps88
      go_wp2_with fail
      (with_reducible refine HC1.out.mono ?_)
      rintro e w2 ⟨A, c, rfl, ho, hb2⟩
      obtain ⟨g, rfl⟩ := own_form ho (by simp)
      have hc0 := txs_at ho (j := 0) (t := hh) rfl
      have K2 := K0.next hb2
      have F2 : ∀ o, w2.frozen? ⟨w.heap.size, o, none⟩ = false := fun o => (hb2.frozen (p := ⟨w.heap.size, o, none⟩) K0.lt).trans (by simp)
      have B2 := B0.trans (hb2.mono B0.size)
      simp only [List.length_cons, List.length_nil, Nat.zero_add, Nat.reduceAdd] at ho ⊢
      have hcap := own_cap ho
      have hlt := own_lt ho
      clear HC1 K0 B0 hb2
      go_wp2_with fail
      (with_reducible refine (HC2.out _).mono ?_)
      rintro e w3 ⟨A3, c3, rfl, ho3, hb3⟩
      have B3 := B2.trans (hb3.mono B2.size)
      have K3 := K2.next hb3
      have hlt2 := K2.lt
      have F3 : ∀ o, w3.frozen? ⟨w.heap.size, o, none⟩ = false := fun o => (hb3.frozen (p := ⟨w.heap.size, o, none⟩) K2.lt).trans (F2 o)
      have ho' := own_keep ho hb3
      by_cases h2 : R2.length = 2
      · obtain ⟨a, b, rfl⟩ : ∃ a b, R2 = [a, b] := by
          match R2, h2 with
          | [a, b], _ => exact ⟨a, b, rfl⟩
        obtain ⟨g3, rfl⟩ := own_form ho3 (by simp)
        have d0 := txs_at ho3 (j := 0) (t := a) rfl
        have d1 := txs_at ho3 (j := 1) (t := b) rfl
        simp only [List.length_cons, List.length_nil, Nat.zero_add, Nat.reduceAdd] at d0 d1 ho3 ⊢
        have hlt3 := own_lt ho3
        have hcap3 := own_cap ho3
        have CA := Lib.hid (fun V => read_bas a V)
        have CB := Lib.hid (fun V => read_bas b V)
        have HO := Lib.hid ho'
        have HSEL := Lib.hid (fun hq => HCL.out a b rfl hq)
        have HSEY := Lib.hid (fun L hq => HYE.out a b L rfl hq)
        obtain ⟨kl, k0, k1, k2⟩ := id K3
        clear HC2 ho ho3 hb3 K2 B2 F2 hc0 HSZ HCL HYE
        go_upto_region 7 with fail
        go_cut [6] (fun p wx => p = .pointer (some ⟨w3.heap.size, 0, none⟩) ∧ wx = (w3.alloc (.cells #[.int .i64 (rdI a), .int .i64 (rdI b), .slice none 0 0] 65)).drew)
        case first =>
          go_wp2_with fail
          have INV : ∀ V, Below w3.heap.size w3 V → V.cell? ⟨g3, 0, none⟩ = some (.string (bas a)) ∧ V.cell? ⟨g3, 1, none⟩ = some (.string (bas b)) := fun V hb => ⟨(hb.cell (p := ⟨g3, 0, none⟩) hlt3.2).trans d0, (hb.cell (p := ⟨g3, 1, none⟩) hlt3.2).trans d1⟩
          have hd0 : Below w3.heap.size w3 w3.drew := (Below.refl _ _).drew
          have hda : ∀ o, Below w3.heap.size w3 (w3.alloc o).drew := fun o => ((Below.refl _ _).alloc (Nat.le_refl _) o).drew
          refine wp_region_top 13 (fun w' => w'.cell? ⟨g3, 0, none⟩ = some (.string (bas a)) ∧ w'.cell? ⟨g3, 1, none⟩ = some (.string (bas b))) (by kernel_rfl) ⟨by simpa [go_sem] using d0, by simpa [go_sem] using d1⟩ (fun hHeld => ?_)
          refine wpTop.take 0 (v := ?_) rfl (by kernel_rfl) (by kernel_rfl) (by kernel_rfl) (by kernel_rfl) (fun _ _ _ h => h) (Or.inl ⟨by rfl, ?_⟩) (by assumption) ?_
          rotate_left
          · intro w hSw; (try dsimp only at hSw); go_simp; try (with_reducible rfl)
          try simp only [Act.put, List.getElem_toArray, List.getElem_cons_zero, List.getElem_cons_succ, List.setIfInBounds_toArray, List.set_cons_zero, List.set_cons_succ]
          refine wpTop.take 1 (v := ?_) rfl (by kernel_rfl) (by kernel_rfl) (by kernel_rfl) (by kernel_rfl) (fun _ _ _ h => h) (Or.inl ⟨by rfl, ?_⟩) (by assumption) ?_
          rotate_left
          · intro w hSw; (try dsimp only at hSw); go_simp; try (with_reducible rfl)
          try simp only [Act.put, List.getElem_toArray, List.getElem_cons_zero, List.getElem_cons_succ, List.setIfInBounds_toArray, List.set_cons_zero, List.set_cons_succ]
          refine wpTop.take 2 (v := ?_) rfl (by kernel_rfl) (by kernel_rfl) (by kernel_rfl) (by kernel_rfl) (fun _ _ _ h => h) (Or.inl ⟨by rfl, ?_⟩) (by assumption) ?_
          rotate_left
          · intro w hSw; (try dsimp only at hSw); go_simp; try (with_reducible rfl)
          try simp only [Act.put, List.getElem_toArray, List.getElem_cons_zero, List.getElem_cons_succ, List.setIfInBounds_toArray, List.set_cons_zero, List.set_cons_succ]
          refine wpTop.take 4 (v := ?_) rfl (by kernel_rfl) (by kernel_rfl) (by kernel_rfl) (by kernel_rfl) (fun _ _ _ h => h) (Or.inl ⟨by rfl, ?_⟩) (by assumption) ?_
          rotate_left
          · intro w hSw; (try dsimp only at hSw); go_simp; try (with_reducible rfl)
          try simp only [Act.put, List.getElem_toArray, List.getElem_cons_zero, List.getElem_cons_succ, List.setIfInBounds_toArray, List.set_cons_zero, List.set_cons_succ]
          refine wpTop.take 5 (v := ?_) rfl (by kernel_rfl) (by kernel_rfl) (by kernel_rfl) (by kernel_rfl) (fun _ _ _ h => h) (Or.inl ⟨by rfl, ?_⟩) (by assumption) ?_
          rotate_left
          · intro w hSw; (try dsimp only at hSw); go_simp; try (with_reducible rfl)
          try simp only [Act.put, List.getElem_toArray, List.getElem_cons_zero, List.getElem_cons_succ, List.setIfInBounds_toArray, List.set_cons_zero, List.set_cons_succ]
          refine wpTop.take 6 (v := ?_) rfl (by kernel_rfl) (by kernel_rfl) (by kernel_rfl) (by kernel_rfl) (fun _ _ _ h => h) (Or.inl ⟨by rfl, ?_⟩) (by assumption) ?_
          rotate_left
          · intro w hSw; (try dsimp only at hSw); go_simp; try (with_reducible rfl)
          try simp only [Act.put, List.getElem_toArray, List.getElem_cons_zero, List.getElem_cons_succ, List.setIfInBounds_toArray, List.set_cons_zero, List.set_cons_succ]
          refine wpTop.duo 3 9 rfl rfl (by kernel_rfl) (fun K hK => ?_) (fun K hK => ?_)
          · go_simp
            (with_reducible refine (CA.out _).mono ?_)
            rintro e _ ⟨rfl, rfl⟩
            refine hK.out _ _ (fun _ => INV _ (by first | exact hd0 | exact hd0.alloc hd0.size _ | exact hda _ | exact below_set3 (hd0.alloc hd0.size _) _ _ _ | exact below_set3 (hda _) _ _ _)) (fun hH => ?_)
            clear hK K
            have hHeld := hH (by decide)
            clear hH
            try simp only [Act.put, List.getElem_toArray, List.getElem_cons_zero, List.getElem_cons_succ, List.setIfInBounds_toArray, List.set_cons_zero, List.set_cons_succ]
            refine wpTop.duo 7 9 rfl rfl (by kernel_rfl) (fun K hK => ?_) (fun K hK => ?_)
            · go_simp
              (with_reducible refine (CB.out _).mono ?_)
              rintro e _ ⟨rfl, rfl⟩
              refine hK.out _ _ (fun _ => INV _ (by first | exact hd0 | exact hd0.alloc hd0.size _ | exact hda _ | exact below_set3 (hd0.alloc hd0.size _) _ _ _ | exact below_set3 (hda _) _ _ _)) (fun hH => ?_)
              clear hK K
              have hHeld := hH (by decide)
              clear hH
              try simp only [Act.put, List.getElem_toArray, List.getElem_cons_zero, List.getElem_cons_succ, List.setIfInBounds_toArray, List.set_cons_zero, List.set_cons_succ]
              refine wpTop.take 8 (v := ?_) rfl (by kernel_rfl) (by kernel_rfl) (by kernel_rfl) (by kernel_rfl) (fun _ _ _ h => h) (Or.inl ⟨by rfl, ?_⟩) (by assumption) ?_
              rotate_left
              · intro w hSw; (try dsimp only at hSw); go_simp; try (with_reducible rfl)
              try simp only [Act.put, List.getElem_toArray, List.getElem_cons_zero, List.getElem_cons_succ, List.setIfInBounds_toArray, List.set_cons_zero, List.set_cons_succ]
              refine wpTop.one 9 rfl (by kernel_rfl) (fun K hK => ?_)
              go_simp
              refine hK.out _ _ (fun _ => INV _ (by first | exact hd0 | exact hd0.alloc hd0.size _ | exact hda _ | exact below_set3 (hd0.alloc hd0.size _) _ _ _ | exact below_set3 (hda _) _ _ _)) (fun hH => ?_)
              clear hK K
              have hHeld := hH (by decide)
              clear hH
              try simp only [Act.put, List.getElem_toArray, List.getElem_cons_zero, List.getElem_cons_succ, List.setIfInBounds_toArray, List.set_cons_zero, List.set_cons_succ]
              refine wpTop.one 10 rfl (by kernel_rfl) (fun K hK => ?_)
              go_simp
              refine hK.out _ _ (fun _ => INV _ (by first | exact hd0 | exact hd0.alloc hd0.size _ | exact hda _ | exact below_set3 (hd0.alloc hd0.size _) _ _ _ | exact below_set3 (hda _) _ _ _)) (fun hH => ?_)
              clear hK K
              have hHeld := hH (by decide)
              clear hH
              try simp only [Act.put, List.getElem_toArray, List.getElem_cons_zero, List.getElem_cons_succ, List.setIfInBounds_toArray, List.set_cons_zero, List.set_cons_succ]
              refine wpTop.all (by kernel_rfl) ?_ _
              go_wp2_with fail
              go_meet
              exact ⟨rfl, rfl⟩
            · go_simp
              refine hK.out _ _ (fun _ => INV _ (by first | exact hd0 | exact hd0.alloc hd0.size _ | exact hda _ | exact below_set3 (hd0.alloc hd0.size _) _ _ _ | exact below_set3 (hda _) _ _ _)) (fun hH => ?_)
              clear hK K
              have hHeld := hH (by decide)
              clear hH
              try simp only [Act.put, List.getElem_toArray, List.getElem_cons_zero, List.getElem_cons_succ, List.setIfInBounds_toArray, List.set_cons_zero, List.set_cons_succ]
              refine wpTop.one 7 rfl (by kernel_rfl) (fun K hK => ?_)
              go_simp
              (with_reducible refine (CB.out _).mono ?_)
              rintro e _ ⟨rfl, rfl⟩
              refine hK.out _ _ (fun _ => INV _ (by first | exact hd0 | exact hd0.alloc hd0.size _ | exact hda _ | exact below_set3 (hd0.alloc hd0.size _) _ _ _ | exact below_set3 (hda _) _ _ _)) (fun hH => ?_)
              clear hK K
              have hHeld := hH (by decide)
              clear hH
              try simp only [Act.put, List.getElem_toArray, List.getElem_cons_zero, List.getElem_cons_succ, List.setIfInBounds_toArray, List.set_cons_zero, List.set_cons_succ]
              refine wpTop.take 8 (v := ?_) rfl (by kernel_rfl) (by kernel_rfl) (by kernel_rfl) (by kernel_rfl) (fun _ _ _ h => h) (Or.inl ⟨by rfl, ?_⟩) (by assumption) ?_
              rotate_left
              · intro w hSw; (try dsimp only at hSw); go_simp; try (with_reducible rfl)
              try simp only [Act.put, List.getElem_toArray, List.getElem_cons_zero, List.getElem_cons_succ, List.setIfInBounds_toArray, List.set_cons_zero, List.set_cons_succ]
              refine wpTop.one 10 rfl (by kernel_rfl) (fun K hK => ?_)
              go_simp
              refine hK.out _ _ (fun _ => INV _ (by first | exact hd0 | exact hd0.alloc hd0.size _ | exact hda _ | exact below_set3 (hd0.alloc hd0.size _) _ _ _ | exact below_set3 (hda _) _ _ _)) (fun hH => ?_)
              clear hK K
              have hHeld := hH (by decide)
              clear hH
              try simp only [Act.put, List.getElem_toArray, List.getElem_cons_zero, List.getElem_cons_succ, List.setIfInBounds_toArray, List.set_cons_zero, List.set_cons_succ]
              refine wpTop.all (by kernel_rfl) ?_ _
              go_wp2_with fail
              go_meet
              exact ⟨rfl, rfl⟩
          · go_simp
            refine hK.out _ _ (fun _ => INV _ (by first | exact hd0 | exact hd0.alloc hd0.size _ | exact hda _ | exact below_set3 (hd0.alloc hd0.size _) _ _ _ | exact below_set3 (hda _) _ _ _)) (fun hH => ?_)
            clear hK K
            have hHeld := hH (by decide)
            clear hH
            try simp only [Act.put, List.getElem_toArray, List.getElem_cons_zero, List.getElem_cons_succ, List.setIfInBounds_toArray, List.set_cons_zero, List.set_cons_succ]
            refine wpTop.one 3 rfl (by kernel_rfl) (fun K hK => ?_)
            go_simp
            (with_reducible refine (CA.out _).mono ?_)
            rintro e _ ⟨rfl, rfl⟩
            refine hK.out _ _ (fun _ => INV _ (by first | exact hd0 | exact hd0.alloc hd0.size _ | exact hda _ | exact below_set3 (hd0.alloc hd0.size _) _ _ _ | exact below_set3 (hda _) _ _ _)) (fun hH => ?_)
            clear hK K
            have hHeld := hH (by decide)
            clear hH
            try simp only [Act.put, List.getElem_toArray, List.getElem_cons_zero, List.getElem_cons_succ, List.setIfInBounds_toArray, List.set_cons_zero, List.set_cons_succ]
            refine wpTop.one 7 rfl (by kernel_rfl) (fun K hK => ?_)
            go_simp
            (with_reducible refine (CB.out _).mono ?_)
            rintro e _ ⟨rfl, rfl⟩
            refine hK.out _ _ (fun _ => INV _ (by first | exact hd0 | exact hd0.alloc hd0.size _ | exact hda _ | exact below_set3 (hd0.alloc hd0.size _) _ _ _ | exact below_set3 (hda _) _ _ _)) (fun hH => ?_)
            clear hK K
            have hHeld := hH (by decide)
            clear hH
            try simp only [Act.put, List.getElem_toArray, List.getElem_cons_zero, List.getElem_cons_succ, List.setIfInBounds_toArray, List.set_cons_zero, List.set_cons_succ]
            refine wpTop.take 8 (v := ?_) rfl (by kernel_rfl) (by kernel_rfl) (by kernel_rfl) (by kernel_rfl) (fun _ _ _ h => h) (Or.inl ⟨by rfl, ?_⟩) (by assumption) ?_
            rotate_left
            · intro w hSw; (try dsimp only at hSw); go_simp; try (with_reducible rfl)
            try simp only [Act.put, List.getElem_toArray, List.getElem_cons_zero, List.getElem_cons_succ, List.setIfInBounds_toArray, List.set_cons_zero, List.set_cons_succ]
            refine wpTop.one 10 rfl (by kernel_rfl) (fun K hK => ?_)
            go_simp
            refine hK.out _ _ (fun _ => INV _ (by first | exact hd0 | exact hd0.alloc hd0.size _ | exact hda _ | exact below_set3 (hd0.alloc hd0.size _) _ _ _ | exact below_set3 (hda _) _ _ _)) (fun hH => ?_)
            clear hK K
            have hHeld := hH (by decide)
            clear hH
            try simp only [Act.put, List.getElem_toArray, List.getElem_cons_zero, List.getElem_cons_succ, List.setIfInBounds_toArray, List.set_cons_zero, List.set_cons_succ]
            refine wpTop.all (by kernel_rfl) ?_ _
            go_wp2_with fail
            go_meet
            exact ⟨rfl, rfl⟩
        case rest =>
          obtain ⟨rfl, rfl⟩ := hcut
          have hda : ∀ o, Below w3.heap.size w3 (w3.alloc o).drew := fun o => ((Below.refl _ _).alloc (Nat.le_refl _) o).drew
          have hbA : Below w3.heap.size w3 (w3.alloc (.cells #[.int .i64 (rdI a), .int .i64 (rdI b), .slice none 0 0] 65)).drew := hda _
          have PE0 : PE w.heap.size w3.heap.size (rdI a) (rdI b) none 0 [] (w3.alloc (.cells #[.int .i64 (rdI a), .int .i64 (rdI b), .slice none 0 0] 65)).drew :=
            ⟨K3.next hbA, fun o => (hbA.frozen (p := ⟨w.heap.size, o, none⟩) K3.lt).trans (F3 o), K3.lt, ⟨by simp, by simp, by simp, by simp⟩, fun o => by simp, World.ownsRow_nil _ _ _ _⟩
          have hq5 := txs_at (own_keep HO.out hbA) (j := 1) (t := q) rfl
          have BB := B3.trans (hbA.mono B3.size)
          obtain ⟨X, hX⟩ : ∃ X, X = rdI a := ⟨_, rfl⟩
          obtain ⟨Y, hY⟩ : ∃ Y, Y = rdI b := ⟨_, rfl⟩
          obtain ⟨g6, hg6⟩ : ∃ g6, g6 = w3.heap.size := ⟨_, rfl⟩
          obtain ⟨w5, hw5⟩ : ∃ w5, w5 = (w3.alloc (.cells #[.int .i64 (rdI a), .int .i64 (rdI b), .slice none 0 0] 65)).drew := ⟨_, rfl⟩
          rw [← hw5] at PE0 BB hq5 ⊢
          rw [← hg6, ← hX, ← hY] at PE0
          rw [← hX, ← hY] at HSEY
          rw [← hg6]
          have hlg := PE0.lt
          obtain ⟨SQ, hSQ⟩ : ∃ SQ, bas q = SQ := ⟨_, rfl⟩
          have hsq := bas_size q
          rw [hSQ] at hq5 hsq
          have HSQ0 := Lib.hid hSQ
          clear hbA hda hX hY hg6 hw5 B3 K3 F3 kl k0 k1 k2 CA CB HO d0 d1 hlt2 hlt3 hcap3 ho' hSQ
          by_cases hq : q = []
          · have z3 : ¬ (0 : Int) < (SQ.size : Int) := by rw [hsq, hq]; simp
            have hcand := HSEY.out [] (by unfold clsQ; rw [if_pos hq])
            obtain ⟨A6, hA6⟩ : ∃ A6 : Option Addr, A6 = none := ⟨_, rfl⟩
            obtain ⟨c6, hc6⟩ : ∃ c6 : Nat, c6 = 0 := ⟨_, rfl⟩
            obtain ⟨L, hL⟩ : ∃ L : List Sq, L = [] := ⟨_, rfl⟩
            rw [← hA6, ← hc6, ← hL] at PE0
            rw [← hL] at hcand
            have hLn : L.length ≤ 2000000 := by rw [hL]; simp
            obtain ⟨wr, hwr⟩ : ∃ wr, wr = w5 := ⟨_, rfl⟩
            rw [← hwr] at PE0 BB hq5 ⊢
            have hE := PE0
            have hbr := BB
            clear hA6 hc6 hL hwr PE0 BB hq hsq HSEL HSEY
            have hcapL := own_cap hE.sq
            have KEEP : ∀ V, Below wr.heap.size wr V → (Below wr.heap.size wr V ∧ V.cell? ⟨g6, 0, none⟩ = some (.int .i64 X) ∧ V.cell? ⟨g6, 1, none⟩ = some (.int .i64 Y) ∧ V.cell? ⟨g6, 2, none⟩ = some (.slice A6 L.length c6) ∧ V.cell? ⟨w.heap.size, 0, none⟩ = some (.int .i64 0) ∧ V.cell? ⟨w.heap.size, 1, none⟩ = some (.int .i64 0) ∧ V.cell? ⟨w.heap.size, 2, none⟩ = some (.slice none 0 0) ∧ V.frozen? ⟨w.heap.size, 0, none⟩ = false ∧ V.frozen? ⟨w.heap.size, 1, none⟩ = false ∧ V.frozen? ⟨w.heap.size, 2, none⟩ = false) := fun V hb => by
              have P := hE.keep hb
              exact ⟨hb, P.box.c0, P.box.c1, P.box.c2, P.res.c0, P.res.c1, P.res.c2, P.rf 0, P.rf 1, P.rf 2⟩
            have KEEP2 : ∀ V V', (Below wr.heap.size wr V ∧ V.cell? ⟨g6, 0, none⟩ = some (.int .i64 X) ∧ V.cell? ⟨g6, 1, none⟩ = some (.int .i64 Y) ∧ V.cell? ⟨g6, 2, none⟩ = some (.slice A6 L.length c6) ∧ V.cell? ⟨w.heap.size, 0, none⟩ = some (.int .i64 0) ∧ V.cell? ⟨w.heap.size, 1, none⟩ = some (.int .i64 0) ∧ V.cell? ⟨w.heap.size, 2, none⟩ = some (.slice none 0 0) ∧ V.frozen? ⟨w.heap.size, 0, none⟩ = false ∧ V.frozen? ⟨w.heap.size, 1, none⟩ = false ∧ V.frozen? ⟨w.heap.size, 2, none⟩ = false) → Below V.heap.size V V' → (Below wr.heap.size wr V' ∧ V'.cell? ⟨g6, 0, none⟩ = some (.int .i64 X) ∧ V'.cell? ⟨g6, 1, none⟩ = some (.int .i64 Y) ∧ V'.cell? ⟨g6, 2, none⟩ = some (.slice A6 L.length c6) ∧ V'.cell? ⟨w.heap.size, 0, none⟩ = some (.int .i64 0) ∧ V'.cell? ⟨w.heap.size, 1, none⟩ = some (.int .i64 0) ∧ V'.cell? ⟨w.heap.size, 2, none⟩ = some (.slice none 0 0) ∧ V'.frozen? ⟨w.heap.size, 0, none⟩ = false ∧ V'.frozen? ⟨w.heap.size, 1, none⟩ = false ∧ V'.frozen? ⟨w.heap.size, 2, none⟩ = false) := fun V V' h hb => KEEP V' (h.1.trans (hb.mono h.1.size))
            have CG := fun V (h : (Below wr.heap.size wr V ∧ V.cell? ⟨g6, 0, none⟩ = some (.int .i64 X) ∧ V.cell? ⟨g6, 1, none⟩ = some (.int .i64 Y) ∧ V.cell? ⟨g6, 2, none⟩ = some (.slice A6 L.length c6) ∧ V.cell? ⟨w.heap.size, 0, none⟩ = some (.int .i64 0) ∧ V.cell? ⟨w.heap.size, 1, none⟩ = some (.int .i64 0) ∧ V.cell? ⟨w.heap.size, 2, none⟩ = some (.slice none 0 0) ∧ V.frozen? ⟨w.heap.size, 0, none⟩ = false ∧ V.frozen? ⟨w.heap.size, 1, none⟩ = false ∧ V.frozen? ⟨w.heap.size, 2, none⟩ = false)) => pzGood_any X Y A6 L.length c6 L V rfl (by omega) (cls_of_own (hE.keep h.1).sq)
            by_cases hG : GoodP X Y L
            · have CG := fun V (h : (Below wr.heap.size wr V ∧ V.cell? ⟨g6, 0, none⟩ = some (.int .i64 X) ∧ V.cell? ⟨g6, 1, none⟩ = some (.int .i64 Y) ∧ V.cell? ⟨g6, 2, none⟩ = some (.slice A6 L.length c6) ∧ V.cell? ⟨w.heap.size, 0, none⟩ = some (.int .i64 0) ∧ V.cell? ⟨w.heap.size, 1, none⟩ = some (.int .i64 0) ∧ V.cell? ⟨w.heap.size, 2, none⟩ = some (.slice none 0 0) ∧ V.frozen? ⟨w.heap.size, 0, none⟩ = false ∧ V.frozen? ⟨w.heap.size, 1, none⟩ = false ∧ V.frozen? ⟨w.heap.size, 2, none⟩ = false)) => callB_yes (CG V h) hG
              have hs := goodP_sm hG
              have hn30 : L.length ≤ 6 := hG.2.1
              have hXX := hG.size
              have CT := fun V (h : (Below wr.heap.size wr V ∧ V.cell? ⟨g6, 0, none⟩ = some (.int .i64 X) ∧ V.cell? ⟨g6, 1, none⟩ = some (.int .i64 Y) ∧ V.cell? ⟨g6, 2, none⟩ = some (.slice A6 L.length c6) ∧ V.cell? ⟨w.heap.size, 0, none⟩ = some (.int .i64 0) ∧ V.cell? ⟨w.heap.size, 1, none⟩ = some (.int .i64 0) ∧ V.cell? ⟨w.heap.size, 2, none⟩ = some (.slice none 0 0) ∧ V.frozen? ⟨w.heap.size, 0, none⟩ = false ∧ V.frozen? ⟨w.heap.size, 1, none⟩ = false ∧ V.frozen? ⟨w.heap.size, 2, none⟩ = false)) => pzText_any X Y A6 L.length c6 L V rfl (by omega) (by omega) (by omega) (cls_of_own (hE.keep h.1).sq) hs
              obtain ⟨SC, hSC⟩ : ∃ SC, bas (ptx X.toNat Y.toNat L) = SC := ⟨_, rfl⟩
              rw [hSC] at CT
              obtain ⟨be, hbe⟩ : ∃ be, (SC.toList == S.toList) = be := ⟨_, rfl⟩
              have hyes : be = true → GoodP X Y L ∧ ptx X.toNat Y.toNat L = l := fun e => by
                rw [← hbe, ← hSC, ← HS.out, ByteArray.toList_eq, ByteArray.toList_eq, bas_listW, bas_listW] at e
                exact ⟨hG, by simpa using e⟩
              have hno : be = false → ∀ W H M, GoodP W H M → ptx W.toNat H.toNat M ≠ l := fun e W H M hG' e2 => by
                have h := cand_ptx hG'
                rw [e2, hcand] at h
                cases h
                rw [← hbe, ← hSC, ← HS.out, ByteArray.toList_eq, ByteArray.toList_eq, bas_listW, bas_listW] at e
                simp [e2] at e
              have HY2 := Lib.hid hyes
              have HN := Lib.hid hno
              have HK := Lib.hid hE
              clear hSC hyes hno
              have HG := Lib.hid hG
              clear hcand hG hE
              go_wp2_with fail
              have h0 := KEEP _ (Below.refl wr.heap.size wr).drew
              refine wp_region_top 11 (fun w' => w'.cell? ⟨g6, 0, none⟩ = some (.int .i64 X) ∧ w'.cell? ⟨g6, 1, none⟩ = some (.int .i64 Y) ∧ w'.cell? ⟨g6, 2, none⟩ = some (.slice A6 L.length c6)) (by kernel_rfl) ⟨h0.2.1, h0.2.2.1, h0.2.2.2.1⟩ (fun hHeld => ?_)
              refine wpTop.take 0 (v := ?_) rfl (by kernel_rfl) (by kernel_rfl) (by kernel_rfl) (by kernel_rfl) (fun _ _ _ h => h) (Or.inl ⟨by rfl, ?_⟩) (by assumption) ?_
              rotate_left
              · intro w hSw; (try dsimp only at hSw); go_simp; try (with_reducible rfl)
              try simp only [Act.put, List.getElem_toArray, List.getElem_cons_zero, List.getElem_cons_succ, List.setIfInBounds_toArray, List.set_cons_zero, List.set_cons_succ]
              refine wpTop.take 1 (v := ?_) rfl (by kernel_rfl) (by kernel_rfl) (by kernel_rfl) (by kernel_rfl) (fun _ _ _ h => h) (Or.inl ⟨by rfl, ?_⟩) (by assumption) ?_
              rotate_left
              · intro w hSw; (try dsimp only at hSw); go_simp; try (with_reducible rfl)
              try simp only [Act.put, List.getElem_toArray, List.getElem_cons_zero, List.getElem_cons_succ, List.setIfInBounds_toArray, List.set_cons_zero, List.set_cons_succ]
              refine wpTop.one 2 rfl (by kernel_rfl) (fun K hK => ?_)
              go_simp
              (with_reducible refine (CG _ h0).mono ?_)
              rintro e w7 ⟨rfl, hb7⟩
              have h7 := KEEP2 _ _ h0 hb7
              refine hK.out _ _ (fun _ => ⟨h7.2.1, h7.2.2.1, h7.2.2.2.1⟩) (fun hH => ?_)
              clear hK K
              have hHeld := hH (by decide)
              clear hH
              try simp only [Act.put, List.getElem_toArray, List.getElem_cons_zero, List.getElem_cons_succ, List.setIfInBounds_toArray, List.set_cons_zero, List.set_cons_succ]
              refine wpTop.take 3 (v := ?_) rfl (by kernel_rfl) (by kernel_rfl) (by kernel_rfl) (by kernel_rfl) (fun _ _ _ h => h) (Or.inl ⟨by rfl, ?_⟩) (by assumption) ?_
              rotate_left
              · intro w hSw; (try dsimp only at hSw); go_simp; try (with_reducible rfl)
              try simp only [Act.put, List.getElem_toArray, List.getElem_cons_zero, List.getElem_cons_succ, List.setIfInBounds_toArray, List.set_cons_zero, List.set_cons_succ]
              refine wpTop.take 4 (v := ?_) rfl (by kernel_rfl) (by kernel_rfl) (by kernel_rfl) (by kernel_rfl) (fun _ _ _ h => h) (Or.inl ⟨by rfl, ?_⟩) (by assumption) ?_
              rotate_left
              · intro w hSw; (try dsimp only at hSw); go_simp; try (with_reducible rfl)
              try simp only [Act.put, List.getElem_toArray, List.getElem_cons_zero, List.getElem_cons_succ, List.setIfInBounds_toArray, List.set_cons_zero, List.set_cons_succ]
              refine wpTop.take 6 (v := ?_) rfl (by kernel_rfl) (by kernel_rfl) (by kernel_rfl) (by kernel_rfl) (fun _ _ _ h => h) (Or.inl ⟨by rfl, ?_⟩) (by assumption) ?_
              rotate_left
              · intro w hSw; (try dsimp only at hSw); go_simp; try (with_reducible rfl)
              try simp only [Act.put, List.getElem_toArray, List.getElem_cons_zero, List.getElem_cons_succ, List.setIfInBounds_toArray, List.set_cons_zero, List.set_cons_succ]
              refine wpTop.one 5 rfl (by kernel_rfl) (fun K hK => ?_)
              go_simp
              (with_reducible refine (CT _ h7).mono ?_)
              rintro e w8 ⟨rfl, hb8⟩
              have h8 := KEEP2 _ _ h7 hb8
              refine hK.out _ _ (fun _ => ⟨h8.2.1, h8.2.2.1, h8.2.2.2.1⟩) (fun hH => ?_)
              clear hK K
              have hHeld := hH (by decide)
              clear hH
              try simp only [Act.put, List.getElem_toArray, List.getElem_cons_zero, List.getElem_cons_succ, List.setIfInBounds_toArray, List.set_cons_zero, List.set_cons_succ]
              refine wpTop.take 7 (v := ?_) rfl (by kernel_rfl) (by kernel_rfl) (by kernel_rfl) (by kernel_rfl) (fun _ _ _ h => h) (Or.inl ⟨by rfl, ?_⟩) (by assumption) ?_
              rotate_left
              · intro w hSw; (try dsimp only at hSw); go_simp; try (with_reducible rfl)
              try simp only [Act.put, List.getElem_toArray, List.getElem_cons_zero, List.getElem_cons_succ, List.setIfInBounds_toArray, List.set_cons_zero, List.set_cons_succ]
              refine wpTop.take 8 (v := ?_) rfl (by kernel_rfl) (by kernel_rfl) (by kernel_rfl) (by kernel_rfl) (fun _ _ _ h => h) (Or.inl ⟨by rfl, ?_⟩) (by assumption) ?_
              rotate_left
              · intro w hSw; (try dsimp only at hSw); go_simp; try (with_reducible rfl)
              try simp only [Act.put, List.getElem_toArray, List.getElem_cons_zero, List.getElem_cons_succ, List.setIfInBounds_toArray, List.set_cons_zero, List.set_cons_succ]
              obtain ⟨hbE, x0, x1, x2, k0, k1, k2, f0, f1, f2⟩ := h8
              refine wpTop.one 9 rfl (by kernel_rfl) (fun K hK => ?_)
              go_simp
              refine hK.out _ _ (fun _ => ⟨by simp [go_sem, *], by simp [go_sem, *], by simp [go_sem, *]⟩) (fun hH => ?_)
              clear hK K
              have hHeld := hH (by decide)
              clear hH
              try simp only [Act.put, List.getElem_toArray, List.getElem_cons_zero, List.getElem_cons_succ, List.setIfInBounds_toArray, List.set_cons_zero, List.set_cons_succ]
              refine wpTop.take 10 (v := ?_) rfl (by kernel_rfl) (by kernel_rfl) (by kernel_rfl) (by kernel_rfl) (fun _ _ _ h => h) (Or.inl ⟨by rfl, ?_⟩) (by assumption) ?_
              rotate_left
              · intro w hSw; (try dsimp only at hSw); go_simp; try (with_reducible rfl)
              try simp only [Act.put, List.getElem_toArray, List.getElem_cons_zero, List.getElem_cons_succ, List.setIfInBounds_toArray, List.set_cons_zero, List.set_cons_succ]
              refine wpTop.all (by kernel_rfl) ?_ _
              go_wp2_with fail
              (try simp only [Exit.inBlock, Exit.then])
              refine bodyPost_ret (ret_pz (Bx.set3 ⟨by have := hbE.size; have := HK.out.res.lt; omega, k0, k1, k2⟩ X Y A6 L.length c6) rfl rfl) rfl ?_
              exact ⟨X, Y, A6, c6, L, _, rfl, own_base (ownsRow_setCell_below (ownsRow_setCell_below (ownsRow_setCell_below (HK.out.keep hbE).sq (by show w.heap.size < g6 + 1; omega) _) (by show w.heap.size < g6 + 1; omega) _) (by show w.heap.size < g6 + 1; omega) _) (by omega), below_set3 (hbr.trans (hbE.mono hbr.size)) _ _ _, HY2.out, HN.out⟩
            · have CG := fun V (h : (Below wr.heap.size wr V ∧ V.cell? ⟨g6, 0, none⟩ = some (.int .i64 X) ∧ V.cell? ⟨g6, 1, none⟩ = some (.int .i64 Y) ∧ V.cell? ⟨g6, 2, none⟩ = some (.slice A6 L.length c6) ∧ V.cell? ⟨w.heap.size, 0, none⟩ = some (.int .i64 0) ∧ V.cell? ⟨w.heap.size, 1, none⟩ = some (.int .i64 0) ∧ V.cell? ⟨w.heap.size, 2, none⟩ = some (.slice none 0 0) ∧ V.frozen? ⟨w.heap.size, 0, none⟩ = false ∧ V.frozen? ⟨w.heap.size, 1, none⟩ = false ∧ V.frozen? ⟨w.heap.size, 2, none⟩ = false)) => callB_no (CG V h) hG
              have hno : ∀ W H M, GoodP W H M → ptx W.toNat H.toNat M ≠ l := fun W H M hG' e => by
                have h := cand_ptx hG'
                rw [e, hcand] at h
                cases h
                exact hG hG'
              have HN := Lib.hid hno
              have HK := Lib.hid hE
              clear hno hcand hG hE
              go_wp2_with fail
              have h0 := KEEP _ (Below.refl wr.heap.size wr).drew
              refine wp_region_top 11 (fun w' => w'.cell? ⟨g6, 0, none⟩ = some (.int .i64 X) ∧ w'.cell? ⟨g6, 1, none⟩ = some (.int .i64 Y) ∧ w'.cell? ⟨g6, 2, none⟩ = some (.slice A6 L.length c6)) (by kernel_rfl) ⟨h0.2.1, h0.2.2.1, h0.2.2.2.1⟩ (fun hHeld => ?_)
              refine wpTop.take 0 (v := ?_) rfl (by kernel_rfl) (by kernel_rfl) (by kernel_rfl) (by kernel_rfl) (fun _ _ _ h => h) (Or.inl ⟨by rfl, ?_⟩) (by assumption) ?_
              rotate_left
              · intro w hSw; (try dsimp only at hSw); go_simp; try (with_reducible rfl)
              try simp only [Act.put, List.getElem_toArray, List.getElem_cons_zero, List.getElem_cons_succ, List.setIfInBounds_toArray, List.set_cons_zero, List.set_cons_succ]
              refine wpTop.take 1 (v := ?_) rfl (by kernel_rfl) (by kernel_rfl) (by kernel_rfl) (by kernel_rfl) (fun _ _ _ h => h) (Or.inl ⟨by rfl, ?_⟩) (by assumption) ?_
              rotate_left
              · intro w hSw; (try dsimp only at hSw); go_simp; try (with_reducible rfl)
              try simp only [Act.put, List.getElem_toArray, List.getElem_cons_zero, List.getElem_cons_succ, List.setIfInBounds_toArray, List.set_cons_zero, List.set_cons_succ]
              refine wpTop.one 2 rfl (by kernel_rfl) (fun K hK => ?_)
              go_simp
              (with_reducible refine (CG _ h0).mono ?_)
              rintro e w7 ⟨rfl, hb7⟩
              have h7 := KEEP2 _ _ h0 hb7
              refine hK.out _ _ (fun _ => ⟨h7.2.1, h7.2.2.1, h7.2.2.2.1⟩) (fun hH => ?_)
              clear hK K
              have hHeld := hH (by decide)
              clear hH
              try simp only [Act.put, List.getElem_toArray, List.getElem_cons_zero, List.getElem_cons_succ, List.setIfInBounds_toArray, List.set_cons_zero, List.set_cons_succ]
              refine wpTop.take 3 (v := ?_) rfl (by kernel_rfl) (by kernel_rfl) (by kernel_rfl) (by kernel_rfl) (fun _ _ _ h => h) (Or.inl ⟨by rfl, ?_⟩) (by assumption) ?_
              rotate_left
              · intro w hSw; (try dsimp only at hSw); go_simp; try (with_reducible rfl)
              try simp only [Act.put, List.getElem_toArray, List.getElem_cons_zero, List.getElem_cons_succ, List.setIfInBounds_toArray, List.set_cons_zero, List.set_cons_succ]
              refine wpTop.take 4 (v := undef) rfl (by kernel_rfl) (by kernel_rfl) (by kernel_rfl) (by kernel_rfl) (fun _ _ _ h => h) (Or.inr ⟨by rfl, rfl⟩) (by assumption) ?_
              try simp only [Act.put, List.getElem_toArray, List.getElem_cons_zero, List.getElem_cons_succ, List.setIfInBounds_toArray, List.set_cons_zero, List.set_cons_succ]
              refine wpTop.take 6 (v := undef) rfl (by kernel_rfl) (by kernel_rfl) (by kernel_rfl) (by kernel_rfl) (fun _ _ _ h => h) (Or.inr ⟨by rfl, rfl⟩) (by assumption) ?_
              try simp only [Act.put, List.getElem_toArray, List.getElem_cons_zero, List.getElem_cons_succ, List.setIfInBounds_toArray, List.set_cons_zero, List.set_cons_succ]
              refine wpTop.one 5 rfl (by kernel_rfl) (fun K hK => ?_)
              go_simp
              refine hK.out _ _ (fun _ => ⟨h7.2.1, h7.2.2.1, h7.2.2.2.1⟩) (fun hH => ?_)
              clear hK K
              have hHeld := hH (by decide)
              clear hH
              try simp only [Act.put, List.getElem_toArray, List.getElem_cons_zero, List.getElem_cons_succ, List.setIfInBounds_toArray, List.set_cons_zero, List.set_cons_succ]
              refine wpTop.take 7 (v := undef) rfl (by kernel_rfl) (by kernel_rfl) (by kernel_rfl) (by kernel_rfl) (fun _ _ _ h => h) (Or.inr ⟨by rfl, rfl⟩) (by assumption) ?_
              try simp only [Act.put, List.getElem_toArray, List.getElem_cons_zero, List.getElem_cons_succ, List.setIfInBounds_toArray, List.set_cons_zero, List.set_cons_succ]
              refine wpTop.take 8 (v := ?_) rfl (by kernel_rfl) (by kernel_rfl) (by kernel_rfl) (by kernel_rfl) (fun _ _ _ h => h) (Or.inl ⟨by rfl, ?_⟩) (by assumption) ?_
              rotate_left
              · intro w hSw; (try dsimp only at hSw); go_simp; try (with_reducible rfl)
              try simp only [Act.put, List.getElem_toArray, List.getElem_cons_zero, List.getElem_cons_succ, List.setIfInBounds_toArray, List.set_cons_zero, List.set_cons_succ]
              obtain ⟨hbE, x0, x1, x2, k0, k1, k2, f0, f1, f2⟩ := h7
              refine wpTop.one 9 rfl (by kernel_rfl) (fun K hK => ?_)
              go_simp
              refine hK.out _ _ (fun _ => ⟨by simp [go_sem, *], by simp [go_sem, *], by simp [go_sem, *]⟩) (fun hH => ?_)
              clear hK K
              have hHeld := hH (by decide)
              clear hH
              try simp only [Act.put, List.getElem_toArray, List.getElem_cons_zero, List.getElem_cons_succ, List.setIfInBounds_toArray, List.set_cons_zero, List.set_cons_succ]
              refine wpTop.take 10 (v := ?_) rfl (by kernel_rfl) (by kernel_rfl) (by kernel_rfl) (by kernel_rfl) (fun _ _ _ h => h) (Or.inl ⟨by rfl, ?_⟩) (by assumption) ?_
              rotate_left
              · intro w hSw; (try dsimp only at hSw); go_simp; try (with_reducible rfl)
              try simp only [Act.put, List.getElem_toArray, List.getElem_cons_zero, List.getElem_cons_succ, List.setIfInBounds_toArray, List.set_cons_zero, List.set_cons_succ]
              refine wpTop.all (by kernel_rfl) ?_ _
              go_wp2_with fail
              (try simp only [Exit.inBlock, Exit.then])
              refine bodyPost_ret (ret_pz (Bx.set3 ⟨by have := hbE.size; have := HK.out.res.lt; omega, k0, k1, k2⟩ X Y A6 L.length c6) rfl rfl) rfl ?_
              exact ⟨X, Y, A6, c6, L, _, rfl, own_base (ownsRow_setCell_below (ownsRow_setCell_below (ownsRow_setCell_below (HK.out.keep hbE).sq (by show w.heap.size < g6 + 1; omega) _) (by show w.heap.size < g6 + 1; omega) _) (by show w.heap.size < g6 + 1; omega) _) (by omega), below_set3 (hbr.trans (hbE.mono hbr.size)) _ _ _, fun h => (by cases h), fun _ => HN.out⟩
          · have z3 : (0 : Int) < (SQ.size : Int) := by rw [hsq]; have := List.length_pos_iff.2 hq; omega
            have CF := split_basW q 44 44 rfl (by omega) w5
            rw [HSQ0.out] at CF
            have CF := Lib.hid CF
            have hpf := spl_len 44 q
            have hFn : (spl 44 q).length ≤ 1100000 := by have h5 := join_len0 44 (spl 44 q); rw [join_spl] at h5; omega
            have HSF := Lib.hid (fun (h : clsOf (spl 44 q) = none) => HSEL.out (by unfold clsQ; rw [if_neg hq]; exact h))
            have HSG := Lib.hid (fun L (h : clsOf (spl 44 q) = some L) => HSEY.out L (by unfold clsQ; rw [if_neg hq]; exact h))
            have hF0 : (spl 44 q) ≠ [] := spl_ne _ _
            obtain ⟨F, hF⟩ : ∃ F, spl 44 q = F := ⟨_, rfl⟩
            rw [hF] at CF hpf hFn HSF HSG hF0
            clear hF hq hsq HSEL HSEY
            go_wp2_with fail
            (with_reducible refine CF.out.mono ?_)
            rintro e w6 ⟨A8, c8, rfl, ho8, hb8⟩
            have hFl := List.length_pos_iff.2 hF0
            obtain ⟨g8, rfl⟩ := own_form ho8 hFl
            have hcap8 := own_cap ho8
            have E8 := PE0.keep hb8
            have P8 : PZ w.heap.size g6 X Y g8 F.length c8 F none 0 [] w6 :=
              ⟨E8.res, E8.rf, E8.lt, E8.box, E8.bf, own_base ho8 (by have := PE0.box.lt; omega), by have := PE0.box.lt; have := (own_lt ho8).1; omega, World.ownsRow_nil _ _ _ _⟩
            have BB := BB.trans (hb8.mono BB.size)
            have hgl : g6 < g8 := P8.glt
            clear CF E8 PE0 ho8 hb8 hq5
            go_wp2_with fail
            go_loopw [48] (fun i wr => ∃ k A6 c6, ∃ L : List Sq, k ≤ F.length ∧ i = .int .i64 k ∧ clsOf (F.take k) = some L ∧ PZ w.heap.size g6 X Y g8 F.length c8 F A6 c6 L wr ∧ Below w.heap.size w wr) (fun i _ => F.length - (intOf i).toNat)
            case atStart => exact ⟨0, none, 0, [], Nat.zero_le _, rfl, rfl, P8, BB⟩
            case round =>
              obtain ⟨k, A6, c6, L, hk, rfl, hsq, hP, hbr⟩ := hrel
              clear P8 BB
              by_cases hlt : k < F.length
              · obtain ⟨t, ht⟩ : ∃ t, F[k]? = some t := ⟨_, List.getElem?_eq_getElem hlt⟩
                have e0 := txs_at hP.parts (j := k) (t := t) ht
                have CT := Lib.hid (split_basW t 46 46 rfl (by have := hpf t (List.mem_of_getElem? ht); omega) wr)
                have i1 : (0 : Int) ≤ (k : Int) := by omega
                have i2 : (k : Int) < (F.length : Int) := by omega
                have HSQ := Lib.hid hsq
                have HT := Lib.hid ht
                clear hsq ht
                go_wp2_with fail
                (with_reducible refine CT.out.mono ?_)
                rintro e w4 ⟨A4, c4, rfl, ho4, hb4⟩
                have hP4 := hP.keep hb4
                have hb44 := hbr.trans (hb4.mono hbr.size)
                by_cases h3 : (spl 46 t).length = 3
                · obtain ⟨a3, b3, c3, HS3⟩ : ∃ a3 b3 c3, spl 46 t = [a3, b3, c3] := by
                    match hs : spl 46 t, h3 with
                    | [a3, b3, c3], _ => exact ⟨a3, b3, c3, rfl⟩
                  have hLle : L.length ≤ 1100000 := by
                    have hlen : L.length = k := by have := clsOf_len HSQ.out; rw [List.length_take] at this; omega
                    omega
                  have hk1 : L.length + 1 ≤ maxLen := by unfold maxLen; omega
                  have hk2 : (L.length + 1) * 24 ≤ 140737488355328 := by omega
                  rw [HS3] at ho4 ⊢
                  obtain ⟨g4, rfl⟩ := own_form ho4 (by simp)
                  have e0 := txs_at ho4 (j := 0) (t := a3) rfl
                  have e1 := txs_at ho4 (j := 1) (t := b3) rfl
                  have e2 := txs_at ho4 (j := 2) (t := c3) rfl
                  simp only [List.length_cons, List.length_nil, Nat.zero_add, Nat.reduceAdd] at e0 e1 e2 ho4 ⊢
                  have hlt4 := own_lt ho4
                  have hcap4 := own_cap ho4
                  have C5 := Lib.hid (fun V => read_bas a3 V)
                  have C9 := Lib.hid (fun V => read_bas b3 V)
                  have C13 := Lib.hid (fun V => read_bas c3 V)
                  have HS3 := Lib.hid HS3
                  obtain ⟨i0, hi, hz0, hz1, hz2⟩ := info_parts infoCl
                  have HO4 := Lib.hid ho4
                  have HSL := Lib.hid (fun k hk => (hP.sq.lt k hk).2)
                  clear CT ho4 hb4 hP
                  go_wp2_with fail
                  have HP4 := Lib.hid hP4
                  have INV : ∀ V, Below w4.heap.size w4 V → V.cell? ⟨g6, 2, none⟩ = some (.slice A6 L.length c6) ∧ V.cell? ⟨g4, 0, none⟩ = some (.string (bas a3)) ∧ V.cell? ⟨g4, 1, none⟩ = some (.string (bas b3)) ∧ V.cell? ⟨g4, 2, none⟩ = some (.string (bas c3)) := fun V hb => ⟨(HP4.out.keep hb).box.c2, (hb.cell (p := ⟨g4, 0, none⟩) hlt4.2).trans e0, (hb.cell (p := ⟨g4, 1, none⟩) hlt4.2).trans e1, (hb.cell (p := ⟨g4, 2, none⟩) hlt4.2).trans e2⟩
                  have hd4 : Below w4.heap.size w4 w4.drew := (Below.refl _ _).drew
                  refine wp_region_top 17 (fun w' => w'.cell? ⟨g6, 2, none⟩ = some (.slice A6 L.length c6) ∧ w'.cell? ⟨g4, 0, none⟩ = some (.string (bas a3)) ∧ w'.cell? ⟨g4, 1, none⟩ = some (.string (bas b3)) ∧ w'.cell? ⟨g4, 2, none⟩ = some (.string (bas c3))) (by kernel_rfl) (INV _ hd4) (fun hHeld => ?_)
                  refine wpTop.take 0 (v := ?_) rfl (by kernel_rfl) (by kernel_rfl) (by kernel_rfl) (by kernel_rfl) (fun _ _ _ h => h) (Or.inl ⟨by rfl, ?_⟩) (by assumption) ?_
                  rotate_left
                  · intro w hSw; (try dsimp only at hSw); go_simp; try (with_reducible rfl)
                  try simp only [Act.put, List.getElem_toArray, List.getElem_cons_zero, List.getElem_cons_succ, List.setIfInBounds_toArray, List.set_cons_zero, List.set_cons_succ]
                  refine wpTop.take 1 (v := ?_) rfl (by kernel_rfl) (by kernel_rfl) (by kernel_rfl) (by kernel_rfl) (fun _ _ _ h => h) (Or.inl ⟨by rfl, ?_⟩) (by assumption) ?_
                  rotate_left
                  · intro w hSw; (try dsimp only at hSw); go_simp; try (with_reducible rfl)
                  try simp only [Act.put, List.getElem_toArray, List.getElem_cons_zero, List.getElem_cons_succ, List.setIfInBounds_toArray, List.set_cons_zero, List.set_cons_succ]
                  refine wpTop.take 2 (v := ?_) rfl (by kernel_rfl) (by kernel_rfl) (by kernel_rfl) (by kernel_rfl) (fun _ _ _ h => h) (Or.inl ⟨by rfl, ?_⟩) (by assumption) ?_
                  rotate_left
                  · intro w hSw; (try dsimp only at hSw); go_simp; try (with_reducible rfl)
                  try simp only [Act.put, List.getElem_toArray, List.getElem_cons_zero, List.getElem_cons_succ, List.setIfInBounds_toArray, List.set_cons_zero, List.set_cons_succ]
                  refine wpTop.take 3 (v := ?_) rfl (by kernel_rfl) (by kernel_rfl) (by kernel_rfl) (by kernel_rfl) (fun _ _ _ h => h) (Or.inl ⟨by rfl, ?_⟩) (by assumption) ?_
                  rotate_left
                  · intro w hSw; (try dsimp only at hSw); go_simp; try (with_reducible rfl)
                  try simp only [Act.put, List.getElem_toArray, List.getElem_cons_zero, List.getElem_cons_succ, List.setIfInBounds_toArray, List.set_cons_zero, List.set_cons_succ]
                  refine wpTop.take 4 (v := ?_) rfl (by kernel_rfl) (by kernel_rfl) (by kernel_rfl) (by kernel_rfl) (fun _ _ _ h => h) (Or.inl ⟨by rfl, ?_⟩) (by assumption) ?_
                  rotate_left
                  · intro w hSw; (try dsimp only at hSw); go_simp; try (with_reducible rfl)
                  try simp only [Act.put, List.getElem_toArray, List.getElem_cons_zero, List.getElem_cons_succ, List.setIfInBounds_toArray, List.set_cons_zero, List.set_cons_succ]
                  refine wpTop.take 6 (v := ?_) rfl (by kernel_rfl) (by kernel_rfl) (by kernel_rfl) (by kernel_rfl) (fun _ _ _ h => h) (Or.inl ⟨by rfl, ?_⟩) (by assumption) ?_
                  rotate_left
                  · intro w hSw; (try dsimp only at hSw); go_simp; try (with_reducible rfl)
                  try simp only [Act.put, List.getElem_toArray, List.getElem_cons_zero, List.getElem_cons_succ, List.setIfInBounds_toArray, List.set_cons_zero, List.set_cons_succ]
                  refine wpTop.take 7 (v := ?_) rfl (by kernel_rfl) (by kernel_rfl) (by kernel_rfl) (by kernel_rfl) (fun _ _ _ h => h) (Or.inl ⟨by rfl, ?_⟩) (by assumption) ?_
                  rotate_left
                  · intro w hSw; (try dsimp only at hSw); go_simp; try (with_reducible rfl)
                  try simp only [Act.put, List.getElem_toArray, List.getElem_cons_zero, List.getElem_cons_succ, List.setIfInBounds_toArray, List.set_cons_zero, List.set_cons_succ]
                  refine wpTop.take 8 (v := ?_) rfl (by kernel_rfl) (by kernel_rfl) (by kernel_rfl) (by kernel_rfl) (fun _ _ _ h => h) (Or.inl ⟨by rfl, ?_⟩) (by assumption) ?_
                  rotate_left
                  · intro w hSw; (try dsimp only at hSw); go_simp; try (with_reducible rfl)
                  try simp only [Act.put, List.getElem_toArray, List.getElem_cons_zero, List.getElem_cons_succ, List.setIfInBounds_toArray, List.set_cons_zero, List.set_cons_succ]
                  refine wpTop.take 10 (v := ?_) rfl (by kernel_rfl) (by kernel_rfl) (by kernel_rfl) (by kernel_rfl) (fun _ _ _ h => h) (Or.inl ⟨by rfl, ?_⟩) (by assumption) ?_
                  rotate_left
                  · intro w hSw; (try dsimp only at hSw); go_simp; try (with_reducible rfl)
                  try simp only [Act.put, List.getElem_toArray, List.getElem_cons_zero, List.getElem_cons_succ, List.setIfInBounds_toArray, List.set_cons_zero, List.set_cons_succ]
                  refine wpTop.take 11 (v := ?_) rfl (by kernel_rfl) (by kernel_rfl) (by kernel_rfl) (by kernel_rfl) (fun _ _ _ h => h) (Or.inl ⟨by rfl, ?_⟩) (by assumption) ?_
                  rotate_left
                  · intro w hSw; (try dsimp only at hSw); go_simp; try (with_reducible rfl)
                  try simp only [Act.put, List.getElem_toArray, List.getElem_cons_zero, List.getElem_cons_succ, List.setIfInBounds_toArray, List.set_cons_zero, List.set_cons_succ]
                  refine wpTop.take 12 (v := ?_) rfl (by kernel_rfl) (by kernel_rfl) (by kernel_rfl) (by kernel_rfl) (fun _ _ _ h => h) (Or.inl ⟨by rfl, ?_⟩) (by assumption) ?_
                  rotate_left
                  · intro w hSw; (try dsimp only at hSw); go_simp; try (with_reducible rfl)
                  try simp only [Act.put, List.getElem_toArray, List.getElem_cons_zero, List.getElem_cons_succ, List.setIfInBounds_toArray, List.set_cons_zero, List.set_cons_succ]
                  refine wpTop.one 5 rfl (by kernel_rfl) (fun K hK => ?_)
                  go_simp
                  (with_reducible refine (C5.out _).mono ?_)
                  rintro e _ ⟨rfl, rfl⟩
                  refine hK.out _ _ (fun _ => INV _ (by first | exact hd4 | exact hd4.alloc hd4.size _)) (fun hH => ?_)
                  clear hK K
                  have hHeld := hH (by decide)
                  clear hH
                  try simp only [Act.put, List.getElem_toArray, List.getElem_cons_zero, List.getElem_cons_succ, List.setIfInBounds_toArray, List.set_cons_zero, List.set_cons_succ]
                  refine wpTop.one 9 rfl (by kernel_rfl) (fun K hK => ?_)
                  go_simp
                  (with_reducible refine (C9.out _).mono ?_)
                  rintro e _ ⟨rfl, rfl⟩
                  refine hK.out _ _ (fun _ => INV _ (by first | exact hd4 | exact hd4.alloc hd4.size _)) (fun hH => ?_)
                  clear hK K
                  have hHeld := hH (by decide)
                  clear hH
                  try simp only [Act.put, List.getElem_toArray, List.getElem_cons_zero, List.getElem_cons_succ, List.setIfInBounds_toArray, List.set_cons_zero, List.set_cons_succ]
                  refine wpTop.one 13 rfl (by kernel_rfl) (fun K hK => ?_)
                  go_simp
                  (with_reducible refine (C13.out _).mono ?_)
                  rintro e _ ⟨rfl, rfl⟩
                  refine hK.out _ _ (fun _ => INV _ (by first | exact hd4 | exact hd4.alloc hd4.size _)) (fun hH => ?_)
                  clear hK K
                  have hHeld := hH (by decide)
                  clear hH
                  try simp only [Act.put, List.getElem_toArray, List.getElem_cons_zero, List.getElem_cons_succ, List.setIfInBounds_toArray, List.set_cons_zero, List.set_cons_succ]
                  refine wpTop.take 14 (v := ?_) rfl (by kernel_rfl) (by kernel_rfl) (by kernel_rfl) (by kernel_rfl) (fun _ _ _ h => h) (Or.inl ⟨by rfl, ?_⟩) (by assumption) ?_
                  rotate_left
                  · intro w hSw; (try dsimp only at hSw); go_simp; try (with_reducible rfl)
                  try simp only [Act.put, List.getElem_toArray, List.getElem_cons_zero, List.getElem_cons_succ, List.setIfInBounds_toArray, List.set_cons_zero, List.set_cons_succ]
                  refine wpTop.one 15 rfl (by kernel_rfl) (fun K hK => ?_)
                  go_simp
                  refine hK.out _ _ (fun _ => INV _ (by first | exact hd4 | exact hd4.alloc hd4.size _)) (fun hH => ?_)
                  clear hK K
                  have hHeld := hH (by decide)
                  clear hH
                  try simp only [Act.put, List.getElem_toArray, List.getElem_cons_zero, List.getElem_cons_succ, List.setIfInBounds_toArray, List.set_cons_zero, List.set_cons_succ]
                  refine wpTop.one 16 rfl (by kernel_rfl) (fun K hK => ?_)
                  have hd5 : Below w4.heap.size w4 (w4.alloc (.cells #[.int .i64 (rdI a3), .int .i64 (rdI b3), .int .i64 (rdI c3)] 122)).drew := ((Below.refl _ _).alloc (Nat.le_refl _) _).drew
                  have P5 := HP4.out.keep hd5
                  refine app_step rfl _ _ _ rfl (g8 + 1) 122 i0 (.agg #[.int .i64 0, .int .i64 0, .int .i64 0]) 3 24 Tryd.underlying63 hi hz0 hz1 hz2 rfl (by decide) (.slice A6 L.length c6) L.length (flat L) rfl P5.sq (some ⟨w4.heap.size, 0, none⟩) 1 1 [.int .i64 (rdI a3), .int .i64 (rdI b3), .int .i64 (rdI c3)] rfl rfl (.inr ⟨_, rfl, new3 _ _ _ _ _⟩) (one3 _ _ _) hk1 hk2 (by have := (own_lt P5.parts).2; omega) ?_
                  intro v' w6 hown6 hgrow hv6
                  obtain ⟨A7, c7, rfl⟩ := own_val hown6
                  have P6 := P5.push ⟨rdI a3, rdI b3, rdI c3⟩ hgrow hown6
                  have hne6 : (.slice A6 L.length c6 : Value).ownBlock ≠ some g6 := fun e => by have := (P5.sq.lt g6 e).1; omega
                  have q2 := (P5.box.far hgrow hne6).c2
                  have q3 := (hgrow.frozen_far ⟨g6, 2, none⟩ P5.box.lt (fun e => hne6 e.symm)).trans (P5.bf 2)
                  have q4 := P5.box.lt
                  have B5 := hb44.trans (hd5.mono hb44.size)
                  have B6 := B5.grown hgrow B5.size (fun k hk => by have := P5.sq.lt k hk; omega)
                  have B7 := B6.setCell (p := ⟨g6, 2, none⟩) (show w.heap.size ≤ g6 by omega) (.slice A7 (L.length + 1) c7)
                  have far4 := own_far (own_keep HO4.out hd5) hgrow (fun k hk e => by have := HO4.out.lt k hk; have := HSL.out k e; omega)
                  have y40 := txs_at far4 (j := 0) (t := a3) rfl
                  have y41 := txs_at far4 (j := 1) (t := b3) rfl
                  have y42 := txs_at far4 (j := 2) (t := c3) rfl
                  refine hK.out _ _ (fun _ => ⟨q2, y40, y41, y42⟩) (fun hH => ?_)
                  clear hK K hH
                  try simp only [Act.put, List.getElem_toArray, List.getElem_cons_zero, List.getElem_cons_succ, List.setIfInBounds_toArray, List.set_cons_zero, List.set_cons_succ]
                  refine wpTop.one 17 rfl (by kernel_rfl) (fun K hK => ?_)
                  go_simp
                  refine hK.out _ _ (fun h => absurd h (by decide)) (fun hH => ?_)
                  clear hK K hH
                  try simp only [Act.put, List.getElem_toArray, List.getElem_cons_zero, List.getElem_cons_succ, List.setIfInBounds_toArray, List.set_cons_zero, List.set_cons_succ]
                  refine wpTop.one 18 rfl (by kernel_rfl) (fun K hK => ?_)
                  go_simp
                  refine hK.out _ _ (fun h => absurd h (by decide)) (fun hH => ?_)
                  clear hK K hH
                  try simp only [Act.put, List.getElem_toArray, List.getElem_cons_zero, List.getElem_cons_succ, List.setIfInBounds_toArray, List.set_cons_zero, List.set_cons_succ]
                  refine wpTop.all (by kernel_rfl) ?_ _
                  go_wp2_with fail
                  go_roundw
                  case rel =>
                      exact ⟨k + 1, A7, c7, L ++ [⟨rdI a3, rdI b3, rdI c3⟩], by omega, by go_num, by rw [List.take_succ, HT.out, Option.toList_some, clsOf_app, HSQ.out, clo_yes HS3.out], P6, B7⟩
                  case measure => simp [intOf]; omega
                · have z4 : ¬ (((spl 46 t).length : Nat) : Int) = 3 := by omega
                  have hn : clsOf F = none := clsOf_bad (k := k + 1) (by omega) (by rw [List.take_succ, HT.out, Option.toList_some, clsOf_app, HSQ.out, clo_no h3])
                  have HN := Lib.hid (HSF.out hn)
                  obtain ⟨kl, k0, k1, k2⟩ := id hP4.res
                  have f0 := hP4.rf 0
                  have f1 := hP4.rf 1
                  have f2 := hP4.rf 2
                  clear hn CT ho4 hb4 hP hP4
                  go_wp2_with fail
                  (try simp only [Exit.inBlock, Exit.then])
                  refine bodyPost_ret (ret_pz (Bx.set3 ⟨kl, k0, k1, k2⟩ 0 0 none 0 0) rfl rfl) rfl ?_
                  exact ⟨0, 0, none, 0, [], false, rfl, World.ownsRow_nil _ _ _ _, below_set3 hb44 _ _ _, fun h => (by cases h), fun _ => HN.out⟩
              · obtain rfl : k = F.length := by omega
                rw [List.take_of_length_le (Nat.le_refl _)] at hsq
                have hcand := HSG.out L hsq
                have hLn : L.length ≤ 2000000 := by have := clsOf_len hsq; omega
                have hE := hP.pe
                have i2 : ¬ (F.length : Int) < (F.length : Int) := by omega
                clear hsq
                have hcapL := own_cap hE.sq
                have KEEP : ∀ V, Below wr.heap.size wr V → (Below wr.heap.size wr V ∧ V.cell? ⟨g6, 0, none⟩ = some (.int .i64 X) ∧ V.cell? ⟨g6, 1, none⟩ = some (.int .i64 Y) ∧ V.cell? ⟨g6, 2, none⟩ = some (.slice A6 L.length c6) ∧ V.cell? ⟨w.heap.size, 0, none⟩ = some (.int .i64 0) ∧ V.cell? ⟨w.heap.size, 1, none⟩ = some (.int .i64 0) ∧ V.cell? ⟨w.heap.size, 2, none⟩ = some (.slice none 0 0) ∧ V.frozen? ⟨w.heap.size, 0, none⟩ = false ∧ V.frozen? ⟨w.heap.size, 1, none⟩ = false ∧ V.frozen? ⟨w.heap.size, 2, none⟩ = false) := fun V hb => by
                  have P := hE.keep hb
                  exact ⟨hb, P.box.c0, P.box.c1, P.box.c2, P.res.c0, P.res.c1, P.res.c2, P.rf 0, P.rf 1, P.rf 2⟩
                have KEEP2 : ∀ V V', (Below wr.heap.size wr V ∧ V.cell? ⟨g6, 0, none⟩ = some (.int .i64 X) ∧ V.cell? ⟨g6, 1, none⟩ = some (.int .i64 Y) ∧ V.cell? ⟨g6, 2, none⟩ = some (.slice A6 L.length c6) ∧ V.cell? ⟨w.heap.size, 0, none⟩ = some (.int .i64 0) ∧ V.cell? ⟨w.heap.size, 1, none⟩ = some (.int .i64 0) ∧ V.cell? ⟨w.heap.size, 2, none⟩ = some (.slice none 0 0) ∧ V.frozen? ⟨w.heap.size, 0, none⟩ = false ∧ V.frozen? ⟨w.heap.size, 1, none⟩ = false ∧ V.frozen? ⟨w.heap.size, 2, none⟩ = false) → Below V.heap.size V V' → (Below wr.heap.size wr V' ∧ V'.cell? ⟨g6, 0, none⟩ = some (.int .i64 X) ∧ V'.cell? ⟨g6, 1, none⟩ = some (.int .i64 Y) ∧ V'.cell? ⟨g6, 2, none⟩ = some (.slice A6 L.length c6) ∧ V'.cell? ⟨w.heap.size, 0, none⟩ = some (.int .i64 0) ∧ V'.cell? ⟨w.heap.size, 1, none⟩ = some (.int .i64 0) ∧ V'.cell? ⟨w.heap.size, 2, none⟩ = some (.slice none 0 0) ∧ V'.frozen? ⟨w.heap.size, 0, none⟩ = false ∧ V'.frozen? ⟨w.heap.size, 1, none⟩ = false ∧ V'.frozen? ⟨w.heap.size, 2, none⟩ = false) := fun V V' h hb => KEEP V' (h.1.trans (hb.mono h.1.size))
                have CG := fun V (h : (Below wr.heap.size wr V ∧ V.cell? ⟨g6, 0, none⟩ = some (.int .i64 X) ∧ V.cell? ⟨g6, 1, none⟩ = some (.int .i64 Y) ∧ V.cell? ⟨g6, 2, none⟩ = some (.slice A6 L.length c6) ∧ V.cell? ⟨w.heap.size, 0, none⟩ = some (.int .i64 0) ∧ V.cell? ⟨w.heap.size, 1, none⟩ = some (.int .i64 0) ∧ V.cell? ⟨w.heap.size, 2, none⟩ = some (.slice none 0 0) ∧ V.frozen? ⟨w.heap.size, 0, none⟩ = false ∧ V.frozen? ⟨w.heap.size, 1, none⟩ = false ∧ V.frozen? ⟨w.heap.size, 2, none⟩ = false)) => pzGood_any X Y A6 L.length c6 L V rfl (by omega) (cls_of_own (hE.keep h.1).sq)
                by_cases hG : GoodP X Y L
                · have CG := fun V (h : (Below wr.heap.size wr V ∧ V.cell? ⟨g6, 0, none⟩ = some (.int .i64 X) ∧ V.cell? ⟨g6, 1, none⟩ = some (.int .i64 Y) ∧ V.cell? ⟨g6, 2, none⟩ = some (.slice A6 L.length c6) ∧ V.cell? ⟨w.heap.size, 0, none⟩ = some (.int .i64 0) ∧ V.cell? ⟨w.heap.size, 1, none⟩ = some (.int .i64 0) ∧ V.cell? ⟨w.heap.size, 2, none⟩ = some (.slice none 0 0) ∧ V.frozen? ⟨w.heap.size, 0, none⟩ = false ∧ V.frozen? ⟨w.heap.size, 1, none⟩ = false ∧ V.frozen? ⟨w.heap.size, 2, none⟩ = false)) => callB_yes (CG V h) hG
                  have hs := goodP_sm hG
                  have hn30 : L.length ≤ 6 := hG.2.1
                  have hXX := hG.size
                  have CT := fun V (h : (Below wr.heap.size wr V ∧ V.cell? ⟨g6, 0, none⟩ = some (.int .i64 X) ∧ V.cell? ⟨g6, 1, none⟩ = some (.int .i64 Y) ∧ V.cell? ⟨g6, 2, none⟩ = some (.slice A6 L.length c6) ∧ V.cell? ⟨w.heap.size, 0, none⟩ = some (.int .i64 0) ∧ V.cell? ⟨w.heap.size, 1, none⟩ = some (.int .i64 0) ∧ V.cell? ⟨w.heap.size, 2, none⟩ = some (.slice none 0 0) ∧ V.frozen? ⟨w.heap.size, 0, none⟩ = false ∧ V.frozen? ⟨w.heap.size, 1, none⟩ = false ∧ V.frozen? ⟨w.heap.size, 2, none⟩ = false)) => pzText_any X Y A6 L.length c6 L V rfl (by omega) (by omega) (by omega) (cls_of_own (hE.keep h.1).sq) hs
                  obtain ⟨SC, hSC⟩ : ∃ SC, bas (ptx X.toNat Y.toNat L) = SC := ⟨_, rfl⟩
                  rw [hSC] at CT
                  obtain ⟨be, hbe⟩ : ∃ be, (SC.toList == S.toList) = be := ⟨_, rfl⟩
                  have hyes : be = true → GoodP X Y L ∧ ptx X.toNat Y.toNat L = l := fun e => by
                    rw [← hbe, ← hSC, ← HS.out, ByteArray.toList_eq, ByteArray.toList_eq, bas_listW, bas_listW] at e
                    exact ⟨hG, by simpa using e⟩
                  have hno : be = false → ∀ W H M, GoodP W H M → ptx W.toNat H.toNat M ≠ l := fun e W H M hG' e2 => by
                    have h := cand_ptx hG'
                    rw [e2, hcand] at h
                    cases h
                    rw [← hbe, ← hSC, ← HS.out, ByteArray.toList_eq, ByteArray.toList_eq, bas_listW, bas_listW] at e
                    simp [e2] at e
                  have HY2 := Lib.hid hyes
                  have HN := Lib.hid hno
                  have HK := Lib.hid hE
                  clear hSC hyes hno
                  have HG := Lib.hid hG
                  clear hcand hG hE hP
                  go_wp2_with fail
                  have h0 := KEEP _ (Below.refl wr.heap.size wr).drew
                  refine wp_region_top 11 (fun w' => w'.cell? ⟨g6, 0, none⟩ = some (.int .i64 X) ∧ w'.cell? ⟨g6, 1, none⟩ = some (.int .i64 Y) ∧ w'.cell? ⟨g6, 2, none⟩ = some (.slice A6 L.length c6)) (by kernel_rfl) ⟨h0.2.1, h0.2.2.1, h0.2.2.2.1⟩ (fun hHeld => ?_)
                  refine wpTop.take 0 (v := ?_) rfl (by kernel_rfl) (by kernel_rfl) (by kernel_rfl) (by kernel_rfl) (fun _ _ _ h => h) (Or.inl ⟨by rfl, ?_⟩) (by assumption) ?_
                  rotate_left
                  · intro w hSw; (try dsimp only at hSw); go_simp; try (with_reducible rfl)
                  try simp only [Act.put, List.getElem_toArray, List.getElem_cons_zero, List.getElem_cons_succ, List.setIfInBounds_toArray, List.set_cons_zero, List.set_cons_succ]
                  refine wpTop.take 1 (v := ?_) rfl (by kernel_rfl) (by kernel_rfl) (by kernel_rfl) (by kernel_rfl) (fun _ _ _ h => h) (Or.inl ⟨by rfl, ?_⟩) (by assumption) ?_
                  rotate_left
                  · intro w hSw; (try dsimp only at hSw); go_simp; try (with_reducible rfl)
                  try simp only [Act.put, List.getElem_toArray, List.getElem_cons_zero, List.getElem_cons_succ, List.setIfInBounds_toArray, List.set_cons_zero, List.set_cons_succ]
                  refine wpTop.one 2 rfl (by kernel_rfl) (fun K hK => ?_)
                  go_simp
                  (with_reducible refine (CG _ h0).mono ?_)
                  rintro e w7 ⟨rfl, hb7⟩
                  have h7 := KEEP2 _ _ h0 hb7
                  refine hK.out _ _ (fun _ => ⟨h7.2.1, h7.2.2.1, h7.2.2.2.1⟩) (fun hH => ?_)
                  clear hK K
                  have hHeld := hH (by decide)
                  clear hH
                  try simp only [Act.put, List.getElem_toArray, List.getElem_cons_zero, List.getElem_cons_succ, List.setIfInBounds_toArray, List.set_cons_zero, List.set_cons_succ]
                  refine wpTop.take 3 (v := ?_) rfl (by kernel_rfl) (by kernel_rfl) (by kernel_rfl) (by kernel_rfl) (fun _ _ _ h => h) (Or.inl ⟨by rfl, ?_⟩) (by assumption) ?_
                  rotate_left
                  · intro w hSw; (try dsimp only at hSw); go_simp; try (with_reducible rfl)
                  try simp only [Act.put, List.getElem_toArray, List.getElem_cons_zero, List.getElem_cons_succ, List.setIfInBounds_toArray, List.set_cons_zero, List.set_cons_succ]
                  refine wpTop.take 4 (v := ?_) rfl (by kernel_rfl) (by kernel_rfl) (by kernel_rfl) (by kernel_rfl) (fun _ _ _ h => h) (Or.inl ⟨by rfl, ?_⟩) (by assumption) ?_
                  rotate_left
                  · intro w hSw; (try dsimp only at hSw); go_simp; try (with_reducible rfl)
                  try simp only [Act.put, List.getElem_toArray, List.getElem_cons_zero, List.getElem_cons_succ, List.setIfInBounds_toArray, List.set_cons_zero, List.set_cons_succ]
                  refine wpTop.take 6 (v := ?_) rfl (by kernel_rfl) (by kernel_rfl) (by kernel_rfl) (by kernel_rfl) (fun _ _ _ h => h) (Or.inl ⟨by rfl, ?_⟩) (by assumption) ?_
                  rotate_left
                  · intro w hSw; (try dsimp only at hSw); go_simp; try (with_reducible rfl)
                  try simp only [Act.put, List.getElem_toArray, List.getElem_cons_zero, List.getElem_cons_succ, List.setIfInBounds_toArray, List.set_cons_zero, List.set_cons_succ]
                  refine wpTop.one 5 rfl (by kernel_rfl) (fun K hK => ?_)
                  go_simp
                  (with_reducible refine (CT _ h7).mono ?_)
                  rintro e w8 ⟨rfl, hb8⟩
                  have h8 := KEEP2 _ _ h7 hb8
                  refine hK.out _ _ (fun _ => ⟨h8.2.1, h8.2.2.1, h8.2.2.2.1⟩) (fun hH => ?_)
                  clear hK K
                  have hHeld := hH (by decide)
                  clear hH
                  try simp only [Act.put, List.getElem_toArray, List.getElem_cons_zero, List.getElem_cons_succ, List.setIfInBounds_toArray, List.set_cons_zero, List.set_cons_succ]
                  refine wpTop.take 7 (v := ?_) rfl (by kernel_rfl) (by kernel_rfl) (by kernel_rfl) (by kernel_rfl) (fun _ _ _ h => h) (Or.inl ⟨by rfl, ?_⟩) (by assumption) ?_
                  rotate_left
                  · intro w hSw; (try dsimp only at hSw); go_simp; try (with_reducible rfl)
                  try simp only [Act.put, List.getElem_toArray, List.getElem_cons_zero, List.getElem_cons_succ, List.setIfInBounds_toArray, List.set_cons_zero, List.set_cons_succ]
                  refine wpTop.take 8 (v := ?_) rfl (by kernel_rfl) (by kernel_rfl) (by kernel_rfl) (by kernel_rfl) (fun _ _ _ h => h) (Or.inl ⟨by rfl, ?_⟩) (by assumption) ?_
                  rotate_left
                  · intro w hSw; (try dsimp only at hSw); go_simp; try (with_reducible rfl)
                  try simp only [Act.put, List.getElem_toArray, List.getElem_cons_zero, List.getElem_cons_succ, List.setIfInBounds_toArray, List.set_cons_zero, List.set_cons_succ]
                  obtain ⟨hbE, x0, x1, x2, k0, k1, k2, f0, f1, f2⟩ := h8
                  refine wpTop.one 9 rfl (by kernel_rfl) (fun K hK => ?_)
                  go_simp
                  refine hK.out _ _ (fun _ => ⟨by simp [go_sem, *], by simp [go_sem, *], by simp [go_sem, *]⟩) (fun hH => ?_)
                  clear hK K
                  have hHeld := hH (by decide)
                  clear hH
                  try simp only [Act.put, List.getElem_toArray, List.getElem_cons_zero, List.getElem_cons_succ, List.setIfInBounds_toArray, List.set_cons_zero, List.set_cons_succ]
                  refine wpTop.take 10 (v := ?_) rfl (by kernel_rfl) (by kernel_rfl) (by kernel_rfl) (by kernel_rfl) (fun _ _ _ h => h) (Or.inl ⟨by rfl, ?_⟩) (by assumption) ?_
                  rotate_left
                  · intro w hSw; (try dsimp only at hSw); go_simp; try (with_reducible rfl)
                  try simp only [Act.put, List.getElem_toArray, List.getElem_cons_zero, List.getElem_cons_succ, List.setIfInBounds_toArray, List.set_cons_zero, List.set_cons_succ]
                  refine wpTop.all (by kernel_rfl) ?_ _
                  go_wp2_with fail
                  (try simp only [Exit.inBlock, Exit.then])
                  refine bodyPost_ret (ret_pz (Bx.set3 ⟨by have := hbE.size; have := HK.out.res.lt; omega, k0, k1, k2⟩ X Y A6 L.length c6) rfl rfl) rfl ?_
                  exact ⟨X, Y, A6, c6, L, _, rfl, own_base (ownsRow_setCell_below (ownsRow_setCell_below (ownsRow_setCell_below (HK.out.keep hbE).sq (by show w.heap.size < g6 + 1; omega) _) (by show w.heap.size < g6 + 1; omega) _) (by show w.heap.size < g6 + 1; omega) _) (by omega), below_set3 (hbr.trans (hbE.mono hbr.size)) _ _ _, HY2.out, HN.out⟩
                · have CG := fun V (h : (Below wr.heap.size wr V ∧ V.cell? ⟨g6, 0, none⟩ = some (.int .i64 X) ∧ V.cell? ⟨g6, 1, none⟩ = some (.int .i64 Y) ∧ V.cell? ⟨g6, 2, none⟩ = some (.slice A6 L.length c6) ∧ V.cell? ⟨w.heap.size, 0, none⟩ = some (.int .i64 0) ∧ V.cell? ⟨w.heap.size, 1, none⟩ = some (.int .i64 0) ∧ V.cell? ⟨w.heap.size, 2, none⟩ = some (.slice none 0 0) ∧ V.frozen? ⟨w.heap.size, 0, none⟩ = false ∧ V.frozen? ⟨w.heap.size, 1, none⟩ = false ∧ V.frozen? ⟨w.heap.size, 2, none⟩ = false)) => callB_no (CG V h) hG
                  have hno : ∀ W H M, GoodP W H M → ptx W.toNat H.toNat M ≠ l := fun W H M hG' e => by
                    have h := cand_ptx hG'
                    rw [e, hcand] at h
                    cases h
                    exact hG hG'
                  have HN := Lib.hid hno
                  have HK := Lib.hid hE
                  clear hno hcand hG hE hP
                  go_wp2_with fail
                  have h0 := KEEP _ (Below.refl wr.heap.size wr).drew
                  refine wp_region_top 11 (fun w' => w'.cell? ⟨g6, 0, none⟩ = some (.int .i64 X) ∧ w'.cell? ⟨g6, 1, none⟩ = some (.int .i64 Y) ∧ w'.cell? ⟨g6, 2, none⟩ = some (.slice A6 L.length c6)) (by kernel_rfl) ⟨h0.2.1, h0.2.2.1, h0.2.2.2.1⟩ (fun hHeld => ?_)
                  refine wpTop.take 0 (v := ?_) rfl (by kernel_rfl) (by kernel_rfl) (by kernel_rfl) (by kernel_rfl) (fun _ _ _ h => h) (Or.inl ⟨by rfl, ?_⟩) (by assumption) ?_
                  rotate_left
                  · intro w hSw; (try dsimp only at hSw); go_simp; try (with_reducible rfl)
                  try simp only [Act.put, List.getElem_toArray, List.getElem_cons_zero, List.getElem_cons_succ, List.setIfInBounds_toArray, List.set_cons_zero, List.set_cons_succ]
                  refine wpTop.take 1 (v := ?_) rfl (by kernel_rfl) (by kernel_rfl) (by kernel_rfl) (by kernel_rfl) (fun _ _ _ h => h) (Or.inl ⟨by rfl, ?_⟩) (by assumption) ?_
                  rotate_left
                  · intro w hSw; (try dsimp only at hSw); go_simp; try (with_reducible rfl)
                  try simp only [Act.put, List.getElem_toArray, List.getElem_cons_zero, List.getElem_cons_succ, List.setIfInBounds_toArray, List.set_cons_zero, List.set_cons_succ]
                  refine wpTop.one 2 rfl (by kernel_rfl) (fun K hK => ?_)
                  go_simp
                  (with_reducible refine (CG _ h0).mono ?_)
                  rintro e w7 ⟨rfl, hb7⟩
                  have h7 := KEEP2 _ _ h0 hb7
                  refine hK.out _ _ (fun _ => ⟨h7.2.1, h7.2.2.1, h7.2.2.2.1⟩) (fun hH => ?_)
                  clear hK K
                  have hHeld := hH (by decide)
                  clear hH
                  try simp only [Act.put, List.getElem_toArray, List.getElem_cons_zero, List.getElem_cons_succ, List.setIfInBounds_toArray, List.set_cons_zero, List.set_cons_succ]
                  refine wpTop.take 3 (v := ?_) rfl (by kernel_rfl) (by kernel_rfl) (by kernel_rfl) (by kernel_rfl) (fun _ _ _ h => h) (Or.inl ⟨by rfl, ?_⟩) (by assumption) ?_
                  rotate_left
                  · intro w hSw; (try dsimp only at hSw); go_simp; try (with_reducible rfl)
                  try simp only [Act.put, List.getElem_toArray, List.getElem_cons_zero, List.getElem_cons_succ, List.setIfInBounds_toArray, List.set_cons_zero, List.set_cons_succ]
                  refine wpTop.take 4 (v := undef) rfl (by kernel_rfl) (by kernel_rfl) (by kernel_rfl) (by kernel_rfl) (fun _ _ _ h => h) (Or.inr ⟨by rfl, rfl⟩) (by assumption) ?_
                  try simp only [Act.put, List.getElem_toArray, List.getElem_cons_zero, List.getElem_cons_succ, List.setIfInBounds_toArray, List.set_cons_zero, List.set_cons_succ]
                  refine wpTop.take 6 (v := undef) rfl (by kernel_rfl) (by kernel_rfl) (by kernel_rfl) (by kernel_rfl) (fun _ _ _ h => h) (Or.inr ⟨by rfl, rfl⟩) (by assumption) ?_
                  try simp only [Act.put, List.getElem_toArray, List.getElem_cons_zero, List.getElem_cons_succ, List.setIfInBounds_toArray, List.set_cons_zero, List.set_cons_succ]
                  refine wpTop.one 5 rfl (by kernel_rfl) (fun K hK => ?_)
                  go_simp
                  refine hK.out _ _ (fun _ => ⟨h7.2.1, h7.2.2.1, h7.2.2.2.1⟩) (fun hH => ?_)
                  clear hK K
                  have hHeld := hH (by decide)
                  clear hH
                  try simp only [Act.put, List.getElem_toArray, List.getElem_cons_zero, List.getElem_cons_succ, List.setIfInBounds_toArray, List.set_cons_zero, List.set_cons_succ]
                  refine wpTop.take 7 (v := undef) rfl (by kernel_rfl) (by kernel_rfl) (by kernel_rfl) (by kernel_rfl) (fun _ _ _ h => h) (Or.inr ⟨by rfl, rfl⟩) (by assumption) ?_
                  try simp only [Act.put, List.getElem_toArray, List.getElem_cons_zero, List.getElem_cons_succ, List.setIfInBounds_toArray, List.set_cons_zero, List.set_cons_succ]
                  refine wpTop.take 8 (v := ?_) rfl (by kernel_rfl) (by kernel_rfl) (by kernel_rfl) (by kernel_rfl) (fun _ _ _ h => h) (Or.inl ⟨by rfl, ?_⟩) (by assumption) ?_
                  rotate_left
                  · intro w hSw; (try dsimp only at hSw); go_simp; try (with_reducible rfl)
                  try simp only [Act.put, List.getElem_toArray, List.getElem_cons_zero, List.getElem_cons_succ, List.setIfInBounds_toArray, List.set_cons_zero, List.set_cons_succ]
                  obtain ⟨hbE, x0, x1, x2, k0, k1, k2, f0, f1, f2⟩ := h7
                  refine wpTop.one 9 rfl (by kernel_rfl) (fun K hK => ?_)
                  go_simp
                  refine hK.out _ _ (fun _ => ⟨by simp [go_sem, *], by simp [go_sem, *], by simp [go_sem, *]⟩) (fun hH => ?_)
                  clear hK K
                  have hHeld := hH (by decide)
                  clear hH
                  try simp only [Act.put, List.getElem_toArray, List.getElem_cons_zero, List.getElem_cons_succ, List.setIfInBounds_toArray, List.set_cons_zero, List.set_cons_succ]
                  refine wpTop.take 10 (v := ?_) rfl (by kernel_rfl) (by kernel_rfl) (by kernel_rfl) (by kernel_rfl) (fun _ _ _ h => h) (Or.inl ⟨by rfl, ?_⟩) (by assumption) ?_
                  rotate_left
                  · intro w hSw; (try dsimp only at hSw); go_simp; try (with_reducible rfl)
                  try simp only [Act.put, List.getElem_toArray, List.getElem_cons_zero, List.getElem_cons_succ, List.setIfInBounds_toArray, List.set_cons_zero, List.set_cons_succ]
                  refine wpTop.all (by kernel_rfl) ?_ _
                  go_wp2_with fail
                  (try simp only [Exit.inBlock, Exit.then])
                  refine bodyPost_ret (ret_pz (Bx.set3 ⟨by have := hbE.size; have := HK.out.res.lt; omega, k0, k1, k2⟩ X Y A6 L.length c6) rfl rfl) rfl ?_
                  exact ⟨X, Y, A6, c6, L, _, rfl, own_base (ownsRow_setCell_below (ownsRow_setCell_below (ownsRow_setCell_below (HK.out.keep hbE).sq (by show w.heap.size < g6 + 1; omega) _) (by show w.heap.size < g6 + 1; omega) _) (by show w.heap.size < g6 + 1; omega) _) (by omega), below_set3 (hbr.trans (hbE.mono hbr.size)) _ _ _, fun h => (by cases h), fun _ => HN.out⟩
      · have z2 : ¬ ((R2.length : Int) = 2) := by omega
        have HN := Lib.hid (HSZ.out h2)
        obtain ⟨kl, k0, k1, k2⟩ := id K3
        have f0 := F3 0
        have f1 := F3 1
        have f2 := F3 2
        clear HC2 ho ho' ho3 hb3 K2 B2 F3 F2 HSZ HCL HYE
        go_wp2_with fail
        (try simp only [Exit.inBlock, Exit.then])
        refine bodyPost_ret (ret_pz (Bx.set3 ⟨kl, k0, k1, k2⟩ 0 0 none 0 0) rfl rfl) rfl ?_
        exact ⟨0, 0, none, 0, [], false, rfl, World.ownsRow_nil _ _ _ _, below_set3 B3 _ _ _, fun h => (by cases h), fun _ => HN.out⟩
    · have z2 : ¬ ((R0.length : Nat) : Int) = 2 := by omega
      have zb : (((R0.length : Nat) : Int) != 2) = true := by simpa using z2
      have HN := Lib.hid (HTWO.out (by rw [HR0.out]; exact hp2))
      go_enter Tryd.func88, Tryd.ntmps88
      go_wp2_with fail
      (with_reducible refine HC1.out.mono ?_)
      rintro e w2 ⟨A, c, rfl, ho, hb2⟩
      have K2 := K0.next hb2
      have F2 : ∀ o, w2.frozen? ⟨w.heap.size, o, none⟩ = false := fun o => (hb2.frozen (p := ⟨w.heap.size, o, none⟩) K0.lt).trans (by simp)
      have B2 := B0.trans (hb2.mono B0.size)
      obtain ⟨kl, k0, k1, k2⟩ := id K2
      have f0 := F2 0
      have f1 := F2 1
      have f2 := F2 2
      clear HC1 ho hb2
      go_wp2_with fail
      (try simp only [Exit.inBlock, Exit.then])
      refine bodyPost_ret (ret_pz (Bx.set3 ⟨kl, k0, k1, k2⟩ 0 0 none 0 0) rfl rfl) rfl ?_
      exact ⟨0, 0, none, 0, [], false, rfl, World.ownsRow_nil _ _ _ _, below_set3 B2 _ _ _, fun h => (by cases h), fun _ => HN.out⟩
end Go.Proofs.YtbkfenhiaedlgaaDoor
