/- Contract of the model's CutOfSides. -/
import Derived.Test.YtfkifcjjkaenhaaGreatDoorFill
set_option linter.all false
namespace Go.Proofs.YtfkifcjjkaenhaaGreatDoor
open Go.RowKit

set_option maxRecDepth 100000 in
set_option maxHeartbeats 2000000 in
theorem l1All_any (A : Option Addr) (n c : Nat) (d : List Int) (lo hi : Int) (w : World) (hl : d.length = n) (hn : n ≤ 1048576) (hd : IntsAt w w.heap.size A d) :
    Calls Tryz.prog 32 #[.slice A n c, .int .i64 lo, .int .i64 hi] w (RetB w (∀ s ∈ d, lo ≤ s ∧ s ≤ hi)) := by
  subst hl
  go_enter Tryz.func32, Tryz.ntmps32
  go_wp2_with fail
  go_loopw [11] (fun i wr => ∃ k : Nat, k ≤ d.length ∧ i = .int .i64 k ∧ Below w.heap.size w wr ∧ ∀ (j : Nat) s, j < k → d[j]? = some s → lo ≤ s ∧ s ≤ hi) (fun i _ => d.length - (intOf i).toNat)
  case atStart => exact ⟨0, Nat.zero_le _, rfl, Below.refl _ _, fun j s hj => by omega⟩
  case round =>
    obtain ⟨k, hk, rfl, hbr, hin⟩ := hrel
    by_cases hlt : k < d.length
    · obtain ⟨s, hs⟩ : ∃ s, d[k]? = some s := ⟨_, List.getElem?_eq_getElem hlt⟩
      obtain ⟨b, off, rfl, hb, d0⟩ := hd k s hs
      have d0r : wr.cell? ⟨b, off + k, none⟩ = some (.int .i64 s) := (hbr.cell (p := ⟨b, _, none⟩) hb).trans d0
      have k0 : (0 : Int) ≤ (k : Int) := by omega
      have k1 : (k : Int) < (d.length : Int) := by omega
      have HS := Lib.hid hs
      have HI := Lib.hid hin
      clear hs hin d0 hd
      cases hok : inB s lo hi
      · have HK := Lib.hid hok
        clear hok
        go_wp2_with fail
        refine (l1In_any _ _ _ _).mono ?_
        rw [HK.out]
        rintro e w' ⟨rfl, rfl⟩
        go_wp2_with fail
        go_ret
        refine RetB.mk (p := ∀ s ∈ d, lo ≤ s ∧ s ≤ hi) ⟨fun e => by simp at e, fun h => ?_⟩ hbr
        have := inB_iff.2 (h s (List.mem_of_getElem? HS.out))
        rw [HK.out] at this
        cases this
      · have HK := Lib.hid hok
        clear hok
        go_wp2_with fail
        refine (l1In_any _ _ _ _).mono ?_
        rw [HK.out]
        rintro e w' ⟨rfl, rfl⟩
        go_wp2_with fail
        go_roundw
        case rel =>
          refine ⟨k + 1, by omega, by go_num, hbr, fun j q hj hq => ?_⟩
          by_cases e : j = k
          · subst e
            obtain rfl := Option.some.inj (HS.out.symm.trans hq)
            exact inB_iff.1 HK.out
          · exact HI.out j q (by omega) hq
        case measure => simp [intOf]; omega
    · obtain rfl : k = d.length := by omega
      clear hd
      have HI := Lib.hid hin
      clear hin
      go_wp2_with fail
      go_ret
      refine RetB.mk (p := ∀ s ∈ d, lo ≤ s ∧ s ≤ hi) ⟨fun _ s hs => ?_, fun _ => rfl⟩ hbr
      obtain ⟨j, hj, e⟩ := List.mem_iff_getElem.1 hs
      exact HI.out j s hj (by rw [List.getElem?_eq_getElem hj, e])
theorem lift_bd {f : List Int} {x n k : Nat} {s : Int} (hb : ∀ (i : Nat) v, f[i]? = some v → v ≤ 500 * k) (h0 : 0 ≤ s) (h1 : s ≤ 500) : ∀ (i : Nat) v, (liftF f x n s)[i]? = some v → v ≤ 500 * ((k + 1 : Nat) : Int) := by
  intro i v hv
  rw [liftF_get] at hv
  cases hi : f[i]? with
  | none => rw [hi] at hv; cases hv
  | some u =>
    rw [hi] at hv
    simp only [Option.map_some, Option.some.injEq] at hv
    have := hb i u hi
    split at hv <;> omega
set_option maxRecDepth 100000 in
set_option maxHeartbeats 16000000 in
theorem bkFill_any (W : Int) (A : Option Addr) (n c : Nat) (d : List Int) (w : World) (hl : d.length = n) (hn : n ≤ 1048576) (hd : IntsAt w w.heap.size A d) :
    Calls Tryz.prog 33 #[.int .i64 W, .slice A n c] w (RetFill w W d) := by
  subst hl
  obtain ⟨W1, hW1⟩ : ∃ W1, W1 = w.alloc (.cells #[.int .i64 0, .int .i64 0, .slice none 0 0] 43) := ⟨_, rfl⟩
  have q1 : Bx w.heap.size W1 0 0 none 0 0 := by rw [hW1]; exact Bx.start _ _ _ _ _ _ _
  have qf : ∀ o, W1.frozen? ⟨w.heap.size, o, none⟩ = false := by intro o; rw [hW1]; exact World.frozen?_alloc_at _ _ _ _ rfl
  have hB1 : Below w.heap.size w W1 := by rw [hW1]; exact (Below.refl _ _).alloc (Nat.le_refl _) _
  have hz1 : W1.heap.size = w.heap.size + 1 := by rw [hW1]; simp
  have hd1 : IntsAt W1 W1.heap.size A d := (hd.below hB1).mono hB1.size
  by_cases hW : 1 ≤ W ∧ W ≤ 500
  · have d1 := Lib.hid (inB_iff.2 hW)
    by_cases h30 : 1 ≤ (d.length : Int) ∧ (d.length : Int) ≤ 30
    · have d2 := Lib.hid (inB_iff.2 h30)
      by_cases hal : ∀ s ∈ d, 1 ≤ s ∧ s ≤ 500
      · obtain ⟨m, rfl⟩ : ∃ m : Nat, W = (m : Int) := ⟨W.toNat, by omega⟩
        obtain ⟨i0, hi, hz0, hz1', hz2⟩ := info_parts infoInt
        obtain ⟨j0, hj, hy0, hy1, hy2⟩ := info_parts infoSq
        have hm500 : m ≤ 500 := by omega
        have hm1 : 1 ≤ m := by omega
        have hmt : ((m : Int)).toNat = m := by omega
        have HMT := Lib.hid hmt
        clear hmt
        go_enter Tryz.func33, Tryz.ntmps33
        go_wp2_with fail
        rw [← hW1]
        refine (l1In_any _ _ _ _).mono ?_
        rw [d1.out]
        rintro e w' ⟨rfl, rfl⟩
        go_wp2_with fail
        refine (l1In_any _ _ _ _).mono ?_
        rw [d2.out]
        rintro e w' ⟨rfl, rfl⟩
        go_wp2_with fail
        try rw [← hW1]
        refine (callB_yes (l1All_any A _ c d 1 500 W1 rfl hn hd1) hal).mono ?_
        rintro e W2 ⟨rfl, hb2⟩
        have q2 := q1.next hb2
        have qf2 : ∀ o, W2.frozen? ⟨w.heap.size, o, none⟩ = false := fun o => (hb2.frozen (p := ⟨w.heap.size, o, none⟩) q1.lt).trans (qf o)
        have hB2 := hB1.trans (hb2.mono hB1.size)
        have hz2' : w.heap.size + 1 ≤ W2.heap.size := by have := hb2.size; omega
        clear q1 qf hb2 hd1 hW1 hB1
        go_wp2_with (at_make; refine wpList_make_full _ rfl _ _ 32 rfl (w.heap.size + 1) 3 i0 (.int .i64 0) 1 Tryz.underlying32 hi hz0 hz1' .i64 .i64 (m : Int) (m : Int) m rfl rfl rfl rfl (by rw [hz2]; omega) (by unfold maxLen; omega) hz2' ?_; intro w2 hown hgrow)
        obtain ⟨g, hg⟩ : ∃ g, g = W2.heap.size := ⟨_, rfl⟩
        obtain ⟨cb, hcb⟩ : ∃ cb, cb = w2.heap.size := ⟨_, rfl⟩
        obtain ⟨w3, hw3⟩ : ∃ w3, w3 = w2.alloc (.cells #[.int .i64 (m : Int), .int .i64 0, .slice none 0 0] 43) := ⟨_, rfl⟩
        rw [← hw3, ← hcb, ← hg]
        have hM0 : FS w w3 cb (cb + 1) m g m (List.replicate (m : Int).toNat 0) none 0 0 [] := by
          have hl : (madeCells (Value.int .i64 0).cells (m * 1)).toList = ints (List.replicate (m : Int).toNat 0) := by
            rw [show (Value.int .i64 0).cells = #[.int .i64 0] from rfl, toList_madeCells_one]; simp [ints]
          rw [hl] at hown
          have hgl := own_lt hown
          rw [← hg] at hgl hown
          have hnn : ∀ x, (none : Option Nat) ≠ some x := fun x e => by cases e
          have qx := q2.far hgrow (hnn _)
          have hb3 : Below w2.heap.size w2 w3 := by rw [hw3]; exact (Below.refl _ _).alloc (Nat.le_refl _) _
          have hB3 : Below w.heap.size w w2 := hB2.grown hgrow hB2.size (fun kk e => by cases e)
          refine ⟨by omega, by omega, by omega, by omega, by omega, qx.next hb3, fun o => ?_, by rw [hw3, hcb]; exact Bx.start _ _ _ _ _ _ _, fun o => by rw [hw3]; exact World.frozen?_alloc_at _ _ _ _ hcb, own_keep hown hb3, World.ownsRow_nil _ _ _ _, hB3.trans (hb3.mono hB3.size)⟩
          exact (hb3.frozen (p := ⟨w.heap.size, o, none⟩) qx.lt).trans ((hgrow.frozen_far ⟨w.heap.size, o, none⟩ q2.lt (fun e => by cases e)).trans (qf2 o))
        clear hown hgrow hw3 q2 qf2 hB2 hz2' hz1 hg hcb
        go_loopw [36] (fun i wr => ∃ (k : Nat) (f : List Int) (L : List Sq) (A' : Option Addr) (c' : Nat), k ≤ d.length ∧ i = .int .i64 k ∧ runF (m : Int).toNat (d.take k) (st0 (m : Int).toNat) = some (f, L) ∧ (∀ (i : Nat) v, f[i]? = some v → v ≤ 500 * (k : Int)) ∧ FS w wr cb (cb + 1) m g m f A' k c' L) (fun i _ => d.length - (intOf i).toNat)
        case atStart => exact ⟨0, _, [], none, 0, Nat.zero_le _, rfl, rfl, fun i v h => by rw [List.getElem?_replicate] at h; split at h <;> cases h; simp, hM0⟩
        case round =>
          obtain ⟨k, f, L, A1, c1, hk, rfl, hr, hbd, hM⟩ := hrel
          obtain ⟨hfl, hst⟩ := start_st hr (by omega)
          rw [HMT.out] at hfl
          have HR := Lib.hid hr
          have HST := Lib.hid hst
          have HBD := Lib.hid hbd
          clear hr hst hbd hM0
          by_cases hlt : k < d.length
          · obtain ⟨s, hs⟩ : ∃ s, d[k]? = some s := ⟨_, List.getElem?_eq_getElem hlt⟩
            obtain ⟨b, off, rfl, hb, d0⟩ := hd k s hs
            obtain ⟨hs1, hs2⟩ := hal s (List.mem_of_getElem? hs)
            have d0r : wr.cell? ⟨b, off + k, none⟩ = some (.int .i64 s) := (hM.below.cell (p := ⟨b, _, none⟩) hb).trans d0
            have k0 : (0 : Int) ≤ (k : Int) := by omega
            have k1 : (k : Int) < (d.length : Int) := by omega
            have HS := Lib.hid hs
            clear hs d0 hd hal
            obtain ⟨wo, rfl⟩ : ∃ wo : World, wo = wr := ⟨_, rfl⟩
            go_wp2_with fail
            go_loopw [10, 42] (fun xv iv wr => ∃ (j x : Nat), j ≤ m ∧ iv = .int .i64 (j : Int) ∧ xv = .int .i64 (x : Int) ∧ Scan f j x ∧ FS w wr cb (cb + 1) m g m f A1 k c1 L) (fun _ iv _ => m - (intOf iv).toNat)
            case atStart => exact ⟨0, 0, Nat.zero_le _, rfl, rfl, Scan.start (by omega), hM⟩
            case round =>
              obtain ⟨j, x, hjm, rfl, rfl, hsc, hMj⟩ := hrel
              have hxl := hsc.1
              obtain ⟨y, hy⟩ : ∃ y, f[x]? = some y := ⟨_, List.getElem?_eq_getElem hxl⟩
              have xc : wr.cell? ⟨g, x, none⟩ = some (.int .i64 y) := by
                rw [hMj.own.cellAt x (by omega)]
                simp [ints, hy]
              have x0 : (0 : Int) ≤ (x : Int) := by omega
              have x1 : (x : Int) < (m : Int) := by omega
              have HY := Lib.hid hy
              have HSC := Lib.hid hsc
              clear hy hsc
              by_cases hjl : j < m
              · obtain ⟨u, hu⟩ : ∃ u, f[j]? = some u := ⟨_, List.getElem?_eq_getElem (by omega)⟩
                have jc : wr.cell? ⟨g, j, none⟩ = some (.int .i64 u) := by
                  rw [hMj.own.cellAt j (by omega)]
                  simp [ints, hu]
                have j0' : (0 : Int) ≤ (j : Int) := by omega
                have j1 : (j : Int) < (m : Int) := by omega
                have HU := Lib.hid hu
                clear hu
                by_cases huy : u < y
                · go_wp2_with fail
                  go_roundw
                  case rel => exact ⟨j + 1, j, by omega, by go_num, rfl, HSC.out.new HY.out HU.out huy, hMj⟩
                  case measure => simp [intOf]; omega
                · go_wp2_with fail
                  go_roundw
                  case rel => exact ⟨j + 1, x, by omega, by go_num, rfl, HSC.out.on HY.out HU.out huy, hMj⟩
                  case measure => simp [intOf]; omega
              · obtain rfl : m = j := by omega
                have hsf : Scan f f.length x := by rw [hfl]; exact HSC.out
                obtain ⟨y', hm'⟩ := hsf.fin
                obtain rfl : y' = y := Option.some.inj (hm'.1.symm.trans HY.out)
                have HM := Lib.hid hm'
                have hy0' := HST.out.nn x y' HY.out
                have hyb := HBD.out x y' HY.out
                have wx : IntKind.i64.wrap ((x : Int) + s) = (x : Int) + s := IntWalk.i64_in _ (by omega)
                have wy : IntKind.i64.wrap (y' + s) = y' + s := IntWalk.i64_in _ (by omega)
                clear hm' hsf
                obtain ⟨wo2, rfl⟩ : ∃ wo2 : World, wo2 = wr := ⟨_, rfl⟩
                go_wp2_with fail
                clear xc
                go_loopw [14] (fun v wr => ∃ (t : Nat), v = .int .i64 (t : Int) ∧ x ≤ t ∧ t ≤ x + s.toNat ∧ Lvl f x (t - x) y' ∧ FS w wr cb (cb + 1) m g m (liftF f x (t - x) s) A1 k c1 L) (fun v _ => x + s.toNat - (intOf v).toNat)
                case atStart => exact ⟨x, rfl, Nat.le_refl _, Nat.le_add_right _ _, fun i h1 h2 => by omega, by rw [Nat.sub_self, liftF_zero]; exact hMj⟩
                case round =>
                  obtain ⟨t, rfl, ht1, ht2, hlv, hMt⟩ := hrel
                  have t0' : (0 : Int) ≤ (t : Int) := by omega
                  have HLV := Lib.hid hlv
                  clear hlv
                  by_cases htl : t < x + s.toNat
                  · have t2' : (t : Int) < (x : Int) + s := by omega
                    by_cases htm : t < m
                    · obtain ⟨u, hu⟩ : ∃ u, f[t]? = some u := ⟨_, List.getElem?_eq_getElem (by omega)⟩
                      obtain ⟨hu1, hu2⟩ := liftF_step (s := s) ht1 hu
                      have tc : wr.cell? ⟨g, t, none⟩ = some (.int .i64 u) := by
                        rw [hMt.own.cellAt t (by omega)]
                        simp [ints, hu1]
                      have tz := hMt.own.frozenAt t
                      have tm1 : (t : Int) < (m : Int) := by omega
                      have tm2 : ¬ (m : Int) ≤ (t : Int) := by omega
                      cases huy : (u == y')
                      · have hno : ¬ (1 ≤ s ∧ x + s.toNat ≤ (m : Int).toNat ∧ Lvl f x s.toNat y') := fun h => by
                          have := h.2.2 t ht1 htl
                          rw [hu] at this
                          cases this
                          simp at huy
                        have hfail := Lib.hid (fillR_stop HS.out HR.out HM.out hno)
                        have hune : (u != y') = true := by simpa [bne] using huy
                        clear hno hu hu1 hu2
                        have t0 := hMt.qf 0
                        have t1 := hMt.qf 1
                        have t2 := hMt.qf 2
                        obtain ⟨_, r0, r1, r2⟩ := id hMt.q
                        have hB4 := hMt.below
                        clear hMt
                        go_wp2_with fail
                        have hB := (((hB4.setCell (p := ⟨w.heap.size, 0, none⟩) (Nat.le_refl _) (.int .i64 0)).setCell (p := ⟨w.heap.size, 1, none⟩) (Nat.le_refl _) (.int .i64 0)).setCell (p := ⟨w.heap.size, 2, none⟩) (Nat.le_refl _) (.slice none 0 0))
                        refine bodyPost_ret (v := .tuple #[.agg #[.int .i64 0, .int .i64 0, .slice none 0 0], .bool false]) (by simp [results, Tryz.results33, go_sem, r0, r1, r2]) rfl ?_
                        exact RetFill.no (hfail.out) hB
                      · obtain rfl : u = y' := by simpa using huy
                        have hMs := hMt.set t (u + s)
                        rw [← hu2] at hMs
                        have hMS := Lib.hid hMs
                        have hl2 : Lvl f x (t + 1 - x) u := fun i h1 h2 => by
                          by_cases e : i = t
                          · subst e; exact hu
                          · exact HLV.out i h1 (by omega)
                        have HL2 := Lib.hid hl2
                        have hune : (u != u) = false := by simp
                        clear hMs hl2 hu hu1 hu2 hMt
                        go_wp2_with fail
                        go_roundw
                        case rel => exact ⟨t + 1, by go_num, by omega, by omega, HL2.out, hMS.out⟩
                        case measure => simp [intOf]; omega
                    · have tm2 : (m : Int) ≤ (t : Int) := by omega
                      have hno : ¬ (1 ≤ s ∧ x + s.toNat ≤ (m : Int).toNat ∧ Lvl f x s.toNat y') := fun h => by omega
                      have hfail := Lib.hid (fillR_stop HS.out HR.out HM.out hno)
                      clear hno
                      have t0 := hMt.qf 0
                      have t1 := hMt.qf 1
                      have t2 := hMt.qf 2
                      obtain ⟨_, r0, r1, r2⟩ := id hMt.q
                      have hB4 := hMt.below
                      clear hMt
                      go_wp2_with fail
                      have hB := (((hB4.setCell (p := ⟨w.heap.size, 0, none⟩) (Nat.le_refl _) (.int .i64 0)).setCell (p := ⟨w.heap.size, 1, none⟩) (Nat.le_refl _) (.int .i64 0)).setCell (p := ⟨w.heap.size, 2, none⟩) (Nat.le_refl _) (.slice none 0 0))
                      refine bodyPost_ret (v := .tuple #[.agg #[.int .i64 0, .int .i64 0, .slice none 0 0], .bool false]) (by simp [results, Tryz.results33, go_sem, r0, r1, r2]) rfl ?_
                      exact RetFill.no (hfail.out) hB
                  · have hte : t - x = s.toNat := by omega
                    rw [hte] at hMt
                    have t2' : ¬ (t : Int) < (x : Int) + s := by omega
                    have hfit : x + s.toNat ≤ m := by
                      have := HLV.out (x + s.toNat - 1) (by omega) (by omega)
                      have := (List.getElem?_eq_some_iff.1 this).1
                      omega
                    have hlv2 : Lvl f x s.toNat y' := by have := HLV.out; rwa [hte] at this
                    have hnext := runF_snoc HS.out HR.out
                    rw [putF_yes HM.out hs1 (by have := HMT.out; omega) hlv2] at hnext
                    have HNX := Lib.hid hnext
                    have hsq := hMt.sq
                    obtain ⟨hbl, z0, z1, z2⟩ := id hMt.b
                    have v2 := hMt.bf 2
                    have hkL : k = L.length := by have := hsq.1; rw [flat_len] at this; omega
                    have hby1 : k + 1 ≤ maxLen := by unfold maxLen; omega
                    have hby2 : (k + 1) * 24 ≤ 140737488355328 := by omega
                    have hsbw : cb + 1 ≤ wr.heap.size := hbl
                    have hnb : some cb ≠ (Value.slice A1 k c1).ownBlock := fun e => by have := (hsq.lt _ e.symm).1; omega
                    have hbd2 := Lib.hid (lift_bd (x := x) (n := s.toNat) HBD.out (by omega) hs2)
                    clear hnext hlv2 hte hkL
                    go_wp2_with (at_builtin; refine app_list rfl _ _ _ rfl (cb + 1) 71 j0 (.agg #[.int .i64 0, .int .i64 0, .int .i64 0]) 3 24 Tryz.underlying41 hj hy0 hy1 hy2 rfl (by decide) (.slice A1 k c1) k _ rfl (hsq.alloc _) (some ⟨wr.heap.size, 0, none⟩) 1 1 [.int .i64 (x : Int), .int .i64 y', .int .i64 s] rfl rfl (.inr ⟨_, rfl, new3 _ _ _ _ _⟩) (one3 _ _ _) hby1 hby2 (by simp; omega) ?_; intro v' w6 hown6 hgrow hv6; obtain ⟨A6, c6, rfl⟩ := own_val hown6; have hbb : Below wr.heap.size wr (wr.alloc (.cells #[.int .i64 (x : Int), .int .i64 y', .int .i64 s] 71)) := (Below.refl _ _).alloc (Nat.le_refl _) _; have s2 := farC4 hbb hgrow (a := ⟨cb, 2, none⟩) hbl hnb z2; have t2 := farF4 hbb hgrow (a := ⟨cb, 2, none⟩) hbl hnb v2)
                    have HP := hMt.push (q := ⟨(x : Int), y', s⟩) hbb hgrow hown6
                    clear hgrow hown6 hv6 s2 t2 hbb
                    go_roundw
                    case rel => exact ⟨k + 1, _, _, A6, c6, by omega, by go_num, HNX.out, hbd2.out, HP⟩
                    case measure => simp [intOf]; omega
          · obtain rfl : k = d.length := by omega
            have hrr : runF (m : Int).toNat d (st0 (m : Int).toNat) = some (f, L) := by have := HR.out; rwa [List.take_of_length_le (Nat.le_refl _)] at this
            have hsd := runF_sides hrr
            have hLl : L.length = d.length := by
              have := congrArg List.length hsd
              simpa [st0] using this
            have hyes := Lib.hid (fun hG => fillR_yes hrr hG)
            have hnot := Lib.hid (fun hG => fillR_no hrr hG)
            obtain ⟨y, hy⟩ : ∃ y, f.headD 0 = y := ⟨_, rfl⟩
            rw [hy] at hyes hnot
            have hf0 : f[0]? = some y := by rw [headF_at (by omega), hy]
            have gc : wr.cell? ⟨g, 0, none⟩ = some (.int .i64 y) := by
              rw [hM.own.cellAt 0 (by omega)]
              simp [ints, hf0]
            obtain ⟨hbl, x0, x1, x2⟩ := id hM.b
            have z1 := hM.bf 1
            obtain ⟨q5, qf5, b5, o5, hB5⟩ := hM.high y
            have hcap := own_cap o5
            have hcb0 := hM.p0
            have m0' : (0 : Int) < (m : Int) := by omega
            clear hM hrr hsd hd hal hf0 hy
            go_wp2_with fail
            obtain ⟨w5, hw5⟩ : ∃ w5, w5 = wr.setCell ⟨cb, 1, none⟩ (.int .i64 y) := ⟨_, rfl⟩
            rw [← hw5] at q5 b5 o5 hB5 ⊢
            have qf5 : ∀ o, w5.frozen? ⟨w.heap.size, o, none⟩ = false := fun o => by rw [hw5]; exact qf5 o
            obtain ⟨_, y0, y1, y2⟩ := id b5
            clear hw5 x0 x1 x2 z1 gc
            go_wp2_with fail
            by_cases hG : Good m y L
            · refine (callB_yes (cuGood_any (m : Int) y A1 d.length c1 L w5 hLl hcap (sqs_of_own o5)) hG).mono ?_
              rintro e w6 ⟨rfl, hb6⟩
              have q6 := q5.next hb6
              have b6 := b5.next hb6
              have o6 := own_keep o5 hb6
              have t0 := (hb6.frozen (p := ⟨w.heap.size, 0, none⟩) q5.lt).trans (qf5 0)
              have t1 := (hb6.frozen (p := ⟨w.heap.size, 1, none⟩) q5.lt).trans (qf5 1)
              have t2 := (hb6.frozen (p := ⟨w.heap.size, 2, none⟩) q5.lt).trans (qf5 2)
              have hB6 := hB5.trans (hb6.mono hB5.size)
              obtain ⟨_, x0, x1, x2⟩ := id b6
              obtain ⟨_, r0, r1, r2⟩ := id q6
              have hgn : w.heap.size < cb + 1 := by omega
              clear b5 b6 q5 q6 qf5 o5 hb6 y0 y1 y2
              go_wp2_with fail
              have hB := ((hB6.setCell (p := ⟨w.heap.size, 0, none⟩) (Nat.le_refl _) (.int .i64 (m : Int))).setCell (p := ⟨w.heap.size, 1, none⟩) (Nat.le_refl _) (.int .i64 y)).setCell (p := ⟨w.heap.size, 2, none⟩) (Nat.le_refl _) (.slice A1 d.length c1)
              have R := ownsRow_setCell_below (ownsRow_setCell_below (ownsRow_setCell_below o6 (a := ⟨w.heap.size, 0, none⟩) hgn (.int .i64 (m : Int))) (a := ⟨w.heap.size, 1, none⟩) hgn (.int .i64 y)) (a := ⟨w.heap.size, 2, none⟩) hgn (.slice A1 d.length c1)
              refine bodyPost_ret (v := .tuple #[.agg #[.int .i64 (m : Int), .int .i64 y, .slice A1 d.length c1], .bool true]) (by simp [results, Tryz.results33, go_sem, r0, r1, r2]) rfl ?_
              exact RetFill.yes (hyes.out hG) hLl.symm (own_base R (by omega)) hB
            · refine (callB_no (cuGood_any (m : Int) y A1 d.length c1 L w5 hLl hcap (sqs_of_own o5)) hG).mono ?_
              rintro e w6 ⟨rfl, hb6⟩
              have q6 := q5.next hb6
              have t0 := (hb6.frozen (p := ⟨w.heap.size, 0, none⟩) q5.lt).trans (qf5 0)
              have t1 := (hb6.frozen (p := ⟨w.heap.size, 1, none⟩) q5.lt).trans (qf5 1)
              have t2 := (hb6.frozen (p := ⟨w.heap.size, 2, none⟩) q5.lt).trans (qf5 2)
              have hB6 := hB5.trans (hb6.mono hB5.size)
              obtain ⟨_, r0, r1, r2⟩ := id q6
              clear b5 q5 q6 qf5 o5 hb6 y0 y1 y2
              go_wp2_with fail
              have hB := (((hB6.setCell (p := ⟨w.heap.size, 0, none⟩) (Nat.le_refl _) (.int .i64 0)).setCell (p := ⟨w.heap.size, 1, none⟩) (Nat.le_refl _) (.int .i64 0)).setCell (p := ⟨w.heap.size, 2, none⟩) (Nat.le_refl _) (.slice none 0 0))
              refine bodyPost_ret (v := .tuple #[.agg #[.int .i64 0, .int .i64 0, .slice none 0 0], .bool false]) (by simp [results, Tryz.results33, go_sem, r0, r1, r2]) rfl ?_
              exact RetFill.no (hnot.out hG) hB
      · have hno : fillR W d = (0, [], false) := fillR_pre fun h => hal h.2.2
        go_enter Tryz.func33, Tryz.ntmps33
        go_wp2_with fail
        rw [← hW1]
        refine (l1In_any _ _ _ _).mono ?_
        rw [d1.out]
        rintro e w' ⟨rfl, rfl⟩
        go_wp2_with fail
        try rw [← hW1]
        refine (l1In_any _ _ _ _).mono ?_
        rw [d2.out]
        rintro e w' ⟨rfl, rfl⟩
        go_wp2_with fail
        try rw [← hW1]
        refine (callB_no (l1All_any A _ c d 1 500 W1 rfl hn hd1) hal).mono ?_
        rintro e W2 ⟨rfl, hb2⟩
        have q2 := q1.next hb2
        have t0 := (hb2.frozen (p := ⟨w.heap.size, 0, none⟩) q1.lt).trans (qf 0)
        have t1 := (hb2.frozen (p := ⟨w.heap.size, 1, none⟩) q1.lt).trans (qf 1)
        have t2 := (hb2.frozen (p := ⟨w.heap.size, 2, none⟩) q1.lt).trans (qf 2)
        have hB2 := hB1.trans (hb2.mono hB1.size)
        obtain ⟨_, r0, r1, r2⟩ := id q2
        clear q1 q2 qf hb2 hd1 hW1 hB1
        go_wp2_with fail
        have hB := (((hB2.setCell (p := ⟨w.heap.size, 0, none⟩) (Nat.le_refl _) (.int .i64 0)).setCell (p := ⟨w.heap.size, 1, none⟩) (Nat.le_refl _) (.int .i64 0)).setCell (p := ⟨w.heap.size, 2, none⟩) (Nat.le_refl _) (.slice none 0 0))
        refine bodyPost_ret (v := .tuple #[.agg #[.int .i64 0, .int .i64 0, .slice none 0 0], .bool false]) (by simp [results, Tryz.results33, go_sem, r0, r1, r2]) rfl ?_
        exact RetFill.no (hno) hB
    · have hno : fillR W d = (0, [], false) := fillR_pre fun h => h30 (by have := h.2.1; omega)
      have d2 : Hid (inB (d.length : Int) 1 30 = false) := Lib.hid (by cases e : inB (d.length : Int) 1 30 with | false => rfl | true => exact absurd (inB_iff.1 e) h30)
      obtain ⟨_, r0, r1, r2⟩ := id q1
      have t0 := qf 0
      have t1 := qf 1
      have t2 := qf 2
      go_enter Tryz.func33, Tryz.ntmps33
      go_wp2_with fail
      rw [← hW1]
      refine (l1In_any _ _ _ _).mono ?_
      rw [d1.out]
      rintro e w' ⟨rfl, rfl⟩
      go_wp2_with fail
      try rw [← hW1]
      refine (l1In_any _ _ _ _).mono ?_
      rw [d2.out]
      rintro e w' ⟨rfl, rfl⟩
      clear hW1
      go_wp2_with fail
      have hB := (((hB1.setCell (p := ⟨w.heap.size, 0, none⟩) (Nat.le_refl _) (.int .i64 0)).setCell (p := ⟨w.heap.size, 1, none⟩) (Nat.le_refl _) (.int .i64 0)).setCell (p := ⟨w.heap.size, 2, none⟩) (Nat.le_refl _) (.slice none 0 0))
      refine bodyPost_ret (v := .tuple #[.agg #[.int .i64 0, .int .i64 0, .slice none 0 0], .bool false]) (by simp [results, Tryz.results33, go_sem, r0, r1, r2]) rfl ?_
      exact RetFill.no (hno) hB
  · have hno : fillR W d = (0, [], false) := fillR_pre fun h => hW h.1
    have d1 : Hid (inB W 1 500 = false) := Lib.hid (by cases e : inB W 1 500 with | false => rfl | true => exact absurd (inB_iff.1 e) hW)
    obtain ⟨_, r0, r1, r2⟩ := id q1
    have t0 := qf 0
    have t1 := qf 1
    have t2 := qf 2
    go_enter Tryz.func33, Tryz.ntmps33
    go_wp2_with fail
    rw [← hW1]
    refine (l1In_any _ _ _ _).mono ?_
    rw [d1.out]
    rintro e w' ⟨rfl, rfl⟩
    clear hW1
    go_wp2_with fail
    have hB := (((hB1.setCell (p := ⟨w.heap.size, 0, none⟩) (Nat.le_refl _) (.int .i64 0)).setCell (p := ⟨w.heap.size, 1, none⟩) (Nat.le_refl _) (.int .i64 0)).setCell (p := ⟨w.heap.size, 2, none⟩) (Nat.le_refl _) (.slice none 0 0))
    refine bodyPost_ret (v := .tuple #[.agg #[.int .i64 0, .int .i64 0, .slice none 0 0], .bool false]) (by simp [results, Tryz.results33, go_sem, r0, r1, r2]) rfl ?_
    exact RetFill.no (hno) hB
end Go.Proofs.YtfkifcjjkaenhaaGreatDoor
