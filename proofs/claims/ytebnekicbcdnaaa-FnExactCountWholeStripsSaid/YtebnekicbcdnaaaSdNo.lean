/- countsFrom of the program: no. -/
import Derived.Test.YtebnekicbcdnaaaSc0
set_option linter.all false
namespace Go.Proofs.Ytebnekicbcdnaaa
open Go.RowKit

set_option maxRecDepth 100000 in
set_option maxHeartbeats 16000000 in
theorem cf_node_no (b h H m n : Nat) (h1 : 1 ≤ h) (h4 : h ≤ 4) (hH : H ≤ 30) (IH : ∀ (f : List Int) (E : List (List Int × Value)) (w : World), free h (H : Int) f < n → Fl h (H : Int) f → FQ b h H m (.func (.func 54) #[] #[]) (fun _ => false) E w → Calls Try.prog 87 #[.pointer (some ⟨b, 0, none⟩), arr (pad4 f)] w (RetQ b h H m (.func (.func 54) #[] #[]) (fun _ => false) E f w))
    (f : List Int) (E : List (List Int × Value)) (w : World) (hn : free h (H : Int) f ≤ n) (hf : Fl h (H : Int) f) (Q : FQ b h H m (.func (.func 54) #[] #[]) (fun _ => false) E w) : Calls Try.prog 87 #[.pointer (some ⟨b, 0, none⟩), arr (pad4 f)] w (RetQ b h H m (.func (.func 54) #[] #[]) (fun _ => false) E f w) := by
  have hlen := hf.len
  obtain ⟨g0, g1, g2, g3, hg⟩ := len4 (pad4_len (f := f) (by omega))
  obtain ⟨W1, hW1⟩ : ∃ W1, W1 = w.alloc (.cells #[.int .i64 g0, .int .i64 g1, .int .i64 g2, .int .i64 g3] 82) := ⟨_, rfl⟩
  obtain ⟨N, hN⟩ : ∃ N, N = w.heap.size := ⟨_, rfl⟩
  have hb1 : Below w.heap.size w W1 := by rw [hW1]; exact (Below.refl _ _).alloc (Nat.le_refl _) _
  have hs1 : W1.heap.size = N + 1 := by rw [hW1, hN]; simp
  have Q1 := Q.keep hb1
  have hbox : W1.heap[N]? = some (.cells #[.int .i64 g0, .int .i64 g1, .int .i64 g2, .int .i64 g3] 82 (0, 0)) := by rw [hW1, hN]; exact heap_alloc_new w _
  have hgw1 : w.grownBy W1 (some m) := by rw [hW1]; exact World.grownBy_alloc w _ _
  have HF := Lib.hid hf
  have HQ1 := Lib.hid Q1
  have HBOX := Lib.hid hbox
  have HGW1 := Lib.hid hgw1
  have hblt := Q1.sf.lt
  have bx0 : W1.cell? ⟨N, 0, none⟩ = some (.int .i64 g0) := by simp [World.cell?, hbox]
  have bx1 : W1.cell? ⟨N, 1, none⟩ = some (.int .i64 g1) := by simp [World.cell?, hbox]
  have bx2 : W1.cell? ⟨N, 2, none⟩ = some (.int .i64 g2) := by simp [World.cell?, hbox]
  have bx3 : W1.cell? ⟨N, 3, none⟩ = some (.int .i64 g3) := by simp [World.cell?, hbox]
  have hNl : N < W1.heap.size := by omega
  have F0 : ∀ u : Later W1.heap.size W1, u.val.cell? ⟨b, 3, none⟩ = some (.map (some m)) := fun u => (u.ok.cell (p := ⟨b, _, none⟩) hblt).trans Q1.sf.c3
  have F1 : ∀ u : Later W1.heap.size W1, u.val.cell? ⟨N, 0, none⟩ = some (.int .i64 g0) := fun u => (u.ok.cell (p := ⟨N, _, none⟩) hNl).trans bx0
  have F2 : ∀ u : Later W1.heap.size W1, u.val.cell? ⟨N, 1, none⟩ = some (.int .i64 g1) := fun u => (u.ok.cell (p := ⟨N, _, none⟩) hNl).trans bx1
  have F3 : ∀ u : Later W1.heap.size W1, u.val.cell? ⟨N, 2, none⟩ = some (.int .i64 g2) := fun u => (u.ok.cell (p := ⟨N, _, none⟩) hNl).trans bx2
  have F4 : ∀ u : Later W1.heap.size W1, u.val.cell? ⟨N, 3, none⟩ = some (.int .i64 g3) := fun u => (u.ok.cell (p := ⟨N, _, none⟩) hNl).trans bx3
  have hmlt := Q1.km.lt
  have LK := lookup_any m E (pad4 f) (pad4_len (by omega)) W1 Q1.km
  rw [hg] at LK
  simp only [arr, ints, List.map_cons, List.map_nil] at LK
  have HNQ := Lib.hid hN
  rcases LK with ⟨q, hqE, hqg, hlk⟩ | ⟨hno, hlk⟩
  · obtain ⟨f', A, c, hf', e1, e2, hrow⟩ := Q1.ok q hqE
    have hff : f' = f := pad4_inj (by rw [hf'.len, hlen]) (by rw [← e1, hqg, ← hg])
    subst hff
    rw [e2] at hlk
    have L1 : ∀ u : Later W1.heap.size W1, (Instr.lookup 101 (.map (some m)) (.agg #[.int .i64 g0, .int .i64 g1, .int .i64 g2, .int .i64 g3]) true).run Try.prog u.val = .ok (.tuple #[.slice A (cS (fun _ => false) h (H : Int) f').length c, .bool true]) u.val := fun u => hlk u.val (u.ok.block _ hmlt)
    have HROW := Lib.hid hrow
    have HE : Hid (q ∈ E ∧ q.2 = .slice A (cS (fun _ => false) h (H : Int) f').length c) := Lib.hid ⟨hqE, e2⟩
    obtain ⟨nn, hnn⟩ : ∃ nn, (cS (fun _ => false) h (H : Int) f').length = nn := ⟨_, rfl⟩
    unfold RetQ
    rw [hnn] at HROW HE ⊢
    simp only [hnn] at L1
    rw [hg]
    simp only [arr, ints, List.map_cons, List.map_nil]
    clear hlk hqg e1 e2 hrow hqE Q Q1 hbox hgw1 hf hf' hg hN hlen IH hn hnn bx0 bx1 bx2 bx3
    go_enter Try.func87, Try.ntmps87
    go_wp2_with fail
    rw [← hW1]
    try rw [← HNQ.out]
    clear hW1
    go_wp2_with fail
    refine wp_region_sub W1.heap.size (by kernel_rfl) (by kernel_rfl) ?_
    iterate 11 (first | go_big_quiet_step (fail) | quiet_step (fail))
    refine wpQuiet_nil ?_
    rintro w2 ⟨uu, hu⟩
    have hb2 : Below W1.heap.size W1 w2 := by rw [hu]; exact uu.ok
    clear hu uu F0 F1 F2 F3 F4 L1
    go_wp2_with fail
    go_ret
    exact ⟨A, c, E, rfl, HQ1.out.keep hb2, own_keep HROW.out hb2, fun q hq => .inl hq, .inl ⟨q, HE.out.1, HE.out.2⟩, grown_trans HGW1.out (grown_of_below hb2 _)⟩
  · obtain ⟨x, y, r, hm, hr⟩ := hf.rm h1
    have hr0 : r ≠ 0 := by
      rintro rfl
      obtain ⟨q, hq, e⟩ := Q1.full
      have hall := hf.sum.2.2 (hf.done hm hr)
      have hfe : f = flatC h H := by
        apply List.ext_getElem?
        intro i
        by_cases hi : i < h
        · have e1 : f[i]? = some (f[i]'(by omega)) := List.getElem?_eq_getElem (by omega)
          rw [e1, hall i _ e1]
          simp [flatC, hi]
        · rw [List.getElem?_eq_none (by omega), List.getElem?_eq_none (by simp [flatC]; omega)]
      exact hno q hq (by rw [e, ← hfe, hg])
    have hrw := hr.w
    have hr4 : r ≤ 4 := by omega
    have L1 : ∀ u : Later W1.heap.size W1, (Instr.lookup 101 (.map (some m)) (.agg #[.int .i64 g0, .int .i64 g1, .int .i64 g2, .int .i64 g3]) true).run Try.prog u.val = .ok (.tuple #[.slice none 0 0, .bool false]) u.val := fun u => hlk u.val (u.ok.block _ hmlt)
    have CNX := fun (V : World) (S : SF b h H (.func (.func 54) #[] #[]) m V) => next_any b h H m (.func (.func 54) #[] #[]) f x r y h1 h4 hH hf hm hr V S
    rw [hg] at CNX
    simp only [arr, ints, List.map_cons, List.map_nil] at CNX
    have HCN := Lib.hid CNX
    have HNX : Hid (∀ k, k < r → (nx f x k).length = 4 ∧ nx f x k = pad4 (liftF f x (k + 1) ((k + 1 : Nat) : Int)) ∧ Fl h (H : Int) (liftF f x (k + 1) ((k + 1 : Nat) : Int)) ∧ free h (H : Int) (liftF f x (k + 1) ((k + 1 : Nat) : Int)) < n) := Lib.hid fun k hk => ⟨pad4_len (by rw [liftF_len]; omega), rfl, (hf.next hm hr (s := k + 1) (by omega)).1, by have := free_less hf hm hr hk; omega⟩
    have hcf : cS (fun _ => false) h (H : Int) f = cP (fun _ => false) h (H : Int) f x r := cS_node h1 hf hm hr hr0
    have hpos := cS_pos (p := (fun _ => false)) h1 hf
    have hcl := cS_len (p := (fun _ => false)) h1 _ (Nat.le_refl _) hf
    have hcs := cS_sum (p := (fun _ => false)) h1 _ (Nat.le_refl _) hf
    have hsm := nS_small (q := fun _ => false) h1 h4 (show (H : Int) ≤ 30 by omega) hf
    have hfr := free_le hf h4 (show (H : Int) ≤ 30 by omega)
    have HLEN : Hid (∀ k, k ≤ r → (cP (fun _ => false) h (H : Int) f x k).length ≤ 121) := Lib.hid fun k hk => by
      have : ∀ j, j ≤ r → (cP (fun _ => false) h (H : Int) f x j).length ≤ (cP (fun _ => false) h (H : Int) f x r).length := fun j hj => lenP (fun _ => false) h H f x j r hj
      have := this k hk
      rw [hcf] at hcl
      omega
    have HSUM : Hid (∀ k, k ≤ r → (cP (fun _ => false) h (H : Int) f x k).sum ≤ 4611686018427387904) := Lib.hid fun k hk => by
      have := sumP (fun _ => false) h H f x k r hk
      rw [← hcf, hcs] at this
      omega
    have HCLN : Hid (∀ k, k < r → 1 ≤ (cS (fun _ => false) h (H : Int) (liftF f x (k + 1) ((k + 1 : Nat) : Int))).length ∧ (cS (fun _ => false) h (H : Int) (liftF f x (k + 1) ((k + 1 : Nat) : Int))).length ≤ 121) := Lib.hid fun k hk => by
      have hfl := (hf.next hm hr (s := k + 1) (by omega)).1
      refine ⟨cS_pos h1 hfl, ?_⟩
      have a := cS_len (p := (fun _ => false)) h1 _ (Nat.le_refl _) hfl
      have b := free_le hfl h4 (show (H : Int) ≤ 30 by omega)
      omega
    have HCF := Lib.hid hcf
    have HIH := Lib.hid IH
    have HNO := Lib.hid hno
    have HG := Lib.hid hg
    have HLF := Lib.hid hlen
    have k1 : (r : Int) ≤ 4 := by omega
    rw [hg]
    simp only [arr, ints, List.map_cons, List.map_nil]
    clear hlk hno Q Q1 hbox hgw1 hf hm hr hg hN hlen IH hn bx0 bx1 bx2 bx3 CNX hcf hpos hcl hcs hsm hfr hrw hr0
    go_enter Try.func87, Try.ntmps87
    go_wp2_with fail
    rw [← hW1]
    try rw [← HNQ.out]
    clear hW1
    go_wp2_with fail
    refine wp_region_sub W1.heap.size (by kernel_rfl) (by kernel_rfl) ?_
    iterate 11 (first | go_big_quiet_step (fail) | quiet_step (fail))
    refine wpQuiet_nil ?_
    rintro w2 ⟨uu, hu⟩
    have hb2 : Below W1.heap.size W1 w2 := by rw [hu]; exact uu.ok
    clear hu uu F0 F1 F2 F3 F4 L1
    have Q2 := HQ1.out.keep hb2
    have hbx2 : w2.heap[N]? = some (.cells #[.int .i64 g0, .int .i64 g1, .int .i64 g2, .int .i64 g3] 82 (0, 0)) := (hb2.block N hNl).trans HBOX.out
    have b0 : w2.cell? ⟨N, 0, none⟩ = some (.int .i64 g0) := by simp [World.cell?, hbx2]
    have b1 : w2.cell? ⟨N, 1, none⟩ = some (.int .i64 g1) := by simp [World.cell?, hbx2]
    have b2 : w2.cell? ⟨N, 2, none⟩ = some (.int .i64 g2) := by simp [World.cell?, hbx2]
    have b3 : w2.cell? ⟨N, 3, none⟩ = some (.int .i64 g3) := by simp [World.cell?, hbx2]
    have HQ2 := Lib.hid Q2
    have HBX2 := Lib.hid hbx2
    have hgw2 := grown_trans HGW1.out (grown_of_below hb2 (some m))
    have HGW2 := Lib.hid hgw2
    have hs2 := hb2.size
    clear Q2 hbx2 hgw2 hb2
    go_wp2_with fail
    (with_reducible refine (HCN.out w2 HQ2.out.sf).mono ?_)
    rintro e w3 ⟨g, xs, rfl, hco, hci, hb3⟩
    have HQ3 := Lib.hid (HQ2.out.keep hb3)
    have HBX3 := Lib.hid ((hb3.block N (by omega)).trans HBX2.out)
    have HGW3 := Lib.hid (grown_trans HGW2.out (grown_of_below hb3 (some m)))
    have HCO := Lib.hid (own_base hco (show N ≤ w2.heap.size by omega))
    have HCI := Lib.hid hci
    have hs3 := hb3.size
    clear hco hci hb3 b0 b1 b2 b3
    go_wp2_with fail
    go_loopw [7, 26] (fun cv iv wr => ∃ (k : Nat) (E1 : List (List Int × Value)) (A1 : Option Addr) (c1 : Nat), k ≤ r ∧ iv = .int .i64 (k : Int) ∧ cv = .slice A1 (cP (fun _ => false) h (H : Int) f x k).length c1 ∧ FQ b h H m (.func (.func 54) #[] #[]) (fun _ => false) E1 wr ∧ wr.ownsRow N 3 1 (.slice A1 (cP (fun _ => false) h (H : Int) f x k).length c1) (cP (fun _ => false) h (H : Int) f x k).length (nI (cP (fun _ => false) h (H : Int) f x k)) ∧ (∀ q ∈ E1, q ∈ E ∨ ∃ k', N ≤ k' ∧ q.2.ownBlock = some k') ∧ (∀ q ∈ E1, ∀ k', q.2.ownBlock = some k' → (Value.slice A1 (cP (fun _ => false) h (H : Int) f x k).length c1).ownBlock ≠ some k') ∧ wr.ownsRow N 82 4 (.slice (some ⟨g, 0, none⟩) r r) r xs ∧ wr.heap[N]? = some (.cells #[.int .i64 g0, .int .i64 g1, .int .i64 g2, .int .i64 g3] 82 (0, 0)) ∧ w.grownBy wr (some m) ∧ W1.heap.size ≤ wr.heap.size) (fun _ iv _ => r - (intOf iv).toNat)
    case atStart => exact ⟨0, E, none, 0, Nat.zero_le _, rfl, rfl, HQ3.out, World.ownsRow_nil _ _ _ _, fun q hq => .inl hq, fun q hq k' hk' => by simp [Value.ownBlock], HCO.out, HBX3.out, HGW3.out, by omega⟩
    case round =>
      obtain ⟨k, E1, A1, c1, hk, rfl, rfl, Qr, hrow, hfrE, hdist, hcol, hbxr, hgwr, hszr⟩ := hrel
      have hxs := hcol.1
      have HQR := Lib.hid Qr
      have HROW := Lib.hid hrow
      have HFE := Lib.hid hfrE
      have HDI := Lib.hid hdist
      have HCOL := Lib.hid hcol
      have HBXR := Lib.hid hbxr
      have HGWR := Lib.hid hgwr
      have HLN := HLEN.out k hk
      by_cases hlt : k < r
      · obtain ⟨hnl, hnp, hnf, hnfr⟩ := HNX.out k hlt
        obtain ⟨n0, n1, n2, n3, hn4⟩ := len4 hnl
        have d0 : wr.cell? ⟨g, k * 4, none⟩ = some (.int .i64 n0) := (hcol.cellAt (k * 4) (by omega)).trans (HCI.out k hlt 0 n0 (by rw [hn4]; rfl))
        have d1 : wr.cell? ⟨g, k * 4 + 1, none⟩ = some (.int .i64 n1) := (hcol.cellAt (k * 4 + 1) (by omega)).trans (HCI.out k hlt 1 n1 (by rw [hn4]; rfl))
        have d2 : wr.cell? ⟨g, k * 4 + 2, none⟩ = some (.int .i64 n2) := (hcol.cellAt (k * 4 + 2) (by omega)).trans (HCI.out k hlt 2 n2 (by rw [hn4]; rfl))
        have d3 : wr.cell? ⟨g, k * 4 + 3, none⟩ = some (.int .i64 n3) := (hcol.cellAt (k * 4 + 3) (by omega)).trans (HCI.out k hlt 3 n3 (by rw [hn4]; rfl))
        obtain ⟨W5, hW5⟩ : ∃ W5, W5 = wr.alloc (.cells #[.int .i64 n0, .int .i64 n1, .int .i64 n2, .int .i64 n3] 82) := ⟨_, rfl⟩
        have hb5 : Below wr.heap.size wr W5 := by rw [hW5]; exact (Below.refl _ _).alloc (Nat.le_refl _) _
        have hg5 : wr.grownBy W5 (some m) := by rw [hW5]; exact World.grownBy_alloc wr _ _
        have y0 : W5.cell? ⟨wr.heap.size, 0, none⟩ = some (.int .i64 n0) := by rw [hW5]; simp
        have y1 : W5.cell? ⟨wr.heap.size, 1, none⟩ = some (.int .i64 n1) := by rw [hW5]; simp
        have y2 : W5.cell? ⟨wr.heap.size, 2, none⟩ = some (.int .i64 n2) := by rw [hW5]; simp
        have y3 : W5.cell? ⟨wr.heap.size, 3, none⟩ = some (.int .i64 n3) := by rw [hW5]; simp
        have hs5 : W5.heap.size = wr.heap.size + 1 := by rw [hW5]; simp
        have hS5 := (HQR.out.keep hb5)
        have zr2 := Qr.sf.c2
        have hblr := Qr.sf.lt
        have CR := HIH.out (liftF f x (k + 1) ((k + 1 : Nat) : Int)) E1 W5 hnfr hnf hS5
        rw [← hnp, hn4] at CR
        simp only [arr, ints, List.map_cons, List.map_nil] at CR
        unfold RetQ at CR
        have HCR := Lib.hid CR
        have HR := Lib.hid hnp
        have HNF := Lib.hid hnf
        have HNFR := Lib.hid hnfr
        have HN4 := Lib.hid hn4
        have HG5 := Lib.hid hg5
        have HB5 := Lib.hid hb5
        have HS5 := Lib.hid hS5
        have j1 : (k : Int) < (r : Int) := by omega
        have j0 : (0 : Int) ≤ (k : Int) := by omega
        clear hnl hnp hnf hnfr hn4 hg5 CR hb5 hS5 Qr hrow hfrE hdist hcol hbxr hgwr
        go_wp2_with fail
        refine (told_no _ _).mono ?_
        rintro e w5 ⟨rfl, hw5⟩
        rw [← hw5, ← hW5]
        clear hw5 w5 hW5 d0 d1 d2 d3 zr2
        go_wp2_with fail
        (with_reducible refine HCR.out.mono ?_)
        rintro e w6 ⟨A6, c6, E2, rfl, Q6, hrow6, hfr6, hv6, hg6⟩
        obtain ⟨L6, hL6⟩ : ∃ L6, (cS (fun _ => false) h (H : Int) (liftF f x (k + 1) ((k + 1 : Nat) : Int))) = L6 := ⟨_, rfl⟩
        have hcl6 := HCLN.out k hlt
        rw [hL6] at hrow6 hv6 hcl6 ⊢
        obtain ⟨PL, hPL⟩ : ∃ PL, (cP (fun _ => false) h (H : Int) f x k) = PL := ⟨_, rfl⟩
        have hps := HSUM.out (k + 1) (by omega)
        have hpn : cP (fun _ => false) h (H : Int) f x (k + 1) = addW PL L6 0 := by rw [cP_succ, hPL, hL6]; rfl
        rw [hpn] at hps
        rw [hPL] at HROW HDI HLN ⊢
        have hgm : ∀ k', k' < W5.heap.size → k' ≠ m → w6.heap[k']? = W5.heap[k']? := fun k' hk' hne => hg6.block k' hk' (fun e => hne (Option.some.inj e))
        have hrow5 := own_keep HROW.out HB5.out
        have hcv6 : w6.ownsRow N 3 1 (.slice A1 PL.length c1) PL.length (nI PL) := own_blk hrow5 fun k' hk' => hgm k' (hrow5.lt k' hk').2 (row_not_map HS5.out.km hrow5 hk')
        have hd6 : ∀ q ∈ E2, ∀ k', q.2.ownBlock = some k' → (Value.slice A1 PL.length c1).ownBlock ≠ some k' := fun q hq k' hk' e => by
          rcases hfr6 q hq with h | ⟨k2, h2, h3⟩
          · exact HDI.out q h k' hk' e
          · rw [h3] at hk'
            have := Option.some.inj hk'
            have := (hrow5.lt k' e).2
            omega
        have hv6' : ∀ k', (Value.slice A6 L6.length c6).ownBlock = some k' → (Value.slice A1 PL.length c1).ownBlock ≠ some k' := fun k' hk' e => by
          rcases hv6 with ⟨q, hq, hq2⟩ | ⟨k2, h2, h3⟩
          · exact HDI.out q hq k' (by rw [hq2]; exact hk') e
          · rw [h3] at hk'
            have := Option.some.inj hk'
            have := (hrow5.lt k' e).2
            omega
        obtain ⟨g6, rfl⟩ := own_form hrow6 (by omega)
        have hlt6 := (own_lt hrow6).2
        have hs56 := hg6.size
        have CA := added_any N A1 PL.length c1 PL (some ⟨g6, 0, none⟩) L6.length c6 L6 0 w6 rfl rfl (by omega) (by omega) (by decide) hcv6 (fun j u hu => ⟨g6, 0, rfl, hlt6, fun e => hv6' g6 rfl e, by
          have hj := (List.getElem?_eq_some_iff.1 hu).1
          rw [Nat.zero_add, hrow6.cellAt j (by omega)]
          exact nI_get _ _ _ hu⟩) (by omega) (fun s => Nat.le_trans (getD_le_sum _ s) hps)
        rw [show ((0 : Nat) : Int) = 0 from rfl] at CA
        have HCA := Lib.hid CA
        have HQ6 := Lib.hid Q6
        have HCV6 := Lib.hid hcv6
        have HD6 := Lib.hid hd6
        have HPN := Lib.hid hpn
        have HFR6 : Hid (∀ q ∈ E2, q ∈ E ∨ ∃ k', N ≤ k' ∧ q.2.ownBlock = some k') := Lib.hid fun q hq => by
          rcases hfr6 q hq with h | ⟨k2, h2, h3⟩
          · exact HFE.out q h
          · exact .inr ⟨k2, by omega, h3⟩
        have hcol5 := own_keep HCOL.out HB5.out
        have hcol6 := own_blk hcol5 fun k' hk' => hgm k' (hcol5.lt k' hk').2 (row_not_map HS5.out.km hcol5 hk')
        have HCOL6 := Lib.hid hcol6
        have hmN : N ≠ m := fun e => by
          obtain ⟨es, ck, h1, _⟩ := HQ1.out.km.obj
          rw [← e, HBOX.out] at h1
          injection h1 with h1
          cases h1
        have HBX6 : Hid (w6.heap[N]? = some (.cells #[.int .i64 g0, .int .i64 g1, .int .i64 g2, .int .i64 g3] 82 (0, 0))) := Lib.hid ((hgm N (by omega) hmN).trans ((HB5.out.block N (by omega)).trans HBXR.out))
        have HG6 := Lib.hid (grown_trans (grown_trans HGWR.out HG5.out) hg6)
        clear hpn hps hgm hrow5 hcv6 hd6 hv6' CA Q6 hrow6 hfr6 hv6 hg6 hcol5 hcol6 hL6 hPL y0 y1 y2 y3
        go_wp2_with fail
        (with_reducible refine HCA.out.mono ?_)
        rintro e w7 ⟨A7, c7, rfl, hrow7, hg7, hb7⟩
        have hQ7 := HQ6.out.row HCV6.out hg7 HD6.out
        have hs7 := hg7.size
        have hcol7 := own_blk HCOL6.out fun k' hk' => hg7.block k' (HCOL6.out.lt k' hk').2 (fun e => rowsT_ne HCOL6.out HCV6.out (by decide) k' hk' e.symm)
        have hbx7 : w7.heap[N]? = some (.cells #[.int .i64 g0, .int .i64 g1, .int .i64 g2, .int .i64 g3] 82 (0, 0)) := (hg7.block N (by omega) (fun e => by
          obtain ⟨cur, e2⟩ := row_obj HCV6.out e.symm
          have e3 := HBX6.out
          rw [e2] at e3
          injection e3 with e3
          injection e3 with _ e3 _
          exact absurd e3 (by decide))).trans HBX6.out
        have hgw7 : w.grownBy w7 (some m) := by
          have h1 := HG6.out
          refine ⟨hg7.os.trans h1.os, hg7.tape.trans h1.tape, hg7.output.trans h1.output, Nat.le_trans h1.size hg7.size, fun k' hk' hne => ?_⟩
          rw [hg7.block k' (by have := h1.size; omega) (fun e => by have := (HCV6.out.lt k' e.symm).1; have := HNQ.out; omega), h1.block k' hk' hne]
        have hd7 : ∀ q ∈ E2, ∀ k', q.2.ownBlock = some k' → (Value.slice A7 (addW PL L6 0).length c7).ownBlock ≠ some k' := fun q hq k' hk' e => by
          rcases hb7 with h | ⟨k2, h2, h3⟩
          · exact HD6.out q hq k' hk' (h.symm.trans e)
          · rw [h3] at e
            have := Option.some.inj e
            have := (HQ6.out.rowlt hq hk').1
            omega
        have HX : Hid (FQ b h H m (.func (.func 54) #[] #[]) (fun _ => false) E2 w7 ∧ w7.ownsRow N 3 1 (.slice A7 (addW PL L6 0).length c7) (addW PL L6 0).length (nI (addW PL L6 0)) ∧ (∀ q ∈ E2, q ∈ E ∨ ∃ k', N ≤ k' ∧ q.2.ownBlock = some k') ∧ (∀ q ∈ E2, ∀ k', q.2.ownBlock = some k' → (Value.slice A7 (addW PL L6 0).length c7).ownBlock ≠ some k') ∧ w7.ownsRow N 82 4 (.slice (some ⟨g, 0, none⟩) r r) r xs ∧ w7.heap[N]? = some (.cells #[.int .i64 g0, .int .i64 g1, .int .i64 g2, .int .i64 g3] 82 (0, 0)) ∧ w.grownBy w7 (some m) ∧ W1.heap.size ≤ w7.heap.size) := Lib.hid ⟨hQ7, hrow7, HFR6.out, hd7, hcol7, hbx7, hgw7, by omega⟩
        clear hQ7 hrow7 hd7 hcol7 hbx7 hgw7 hg7 hb7
        go_wp2_with fail
        go_roundw
        case rel => exact ⟨k + 1, E2, A7, c7, by omega, by go_num, by rw [HPN.out], by rw [HPN.out]; exact HX.out⟩
        case measure => simp [intOf]; omega
      · obtain rfl : k = r := by omega
        have z3 := Qr.sf.c3
        have hblr := Qr.sf.lt
        have b0 : wr.cell? ⟨N, 0, none⟩ = some (.int .i64 g0) := by simp [World.cell?, hbxr]
        have b1 : wr.cell? ⟨N, 1, none⟩ = some (.int .i64 g1) := by simp [World.cell?, hbxr]
        have b2 : wr.cell? ⟨N, 2, none⟩ = some (.int .i64 g2) := by simp [World.cell?, hbxr]
        have b3 : wr.cell? ⟨N, 3, none⟩ = some (.int .i64 g3) := by simp [World.cell?, hbxr]
        obtain ⟨PL, hPL⟩ : ∃ PL, (cP (fun _ => false) h (H : Int) f x k) = PL := ⟨_, rfl⟩
        have hcfe := HCF.out
        rw [hPL] at HROW HDI hcfe ⊢
        have HCFE := Lib.hid hcfe
        have KMU := fun (W : World) (K : KM m E1 W) => update_any m E1 (pad4 f) (.slice A1 PL.length c1) (by rw [HG.out]; rfl) W K
        rw [HG.out] at KMU
        simp only [arr, ints, List.map_cons, List.map_nil] at KMU
        have HKM := Lib.hid KMU
        have hi0 : ¬ (k : Int) < (k : Int) := by omega
        clear Qr hrow hfrE hdist hcol hbxr hgwr hPL KMU hcfe
        go_wp2_with fail
        refine wp_region_top 6 (fun w' => w'.cell? ⟨b, 3, none⟩ = some (.map (some m)) ∧ w'.cell? ⟨N, 0, none⟩ = some (.int .i64 g0) ∧ w'.cell? ⟨N, 1, none⟩ = some (.int .i64 g1) ∧ w'.cell? ⟨N, 2, none⟩ = some (.int .i64 g2) ∧ w'.cell? ⟨N, 3, none⟩ = some (.int .i64 g3)) (by kernel_rfl) (⟨z3, b0, b1, b2, b3⟩) (fun hHeld => ?_)
        refine wpTop.take 0 (v := ?_) rfl (by kernel_rfl) (by kernel_rfl) (by kernel_rfl) (by kernel_rfl) (fun _ _ _ h => h) (Or.inl ⟨by rfl, ?_⟩) (by assumption) ?_
        rotate_left
        · intro w hSw; (try dsimp only at hSw); go_simp; try (with_reducible rfl)
        try simp only [Act.put, List.getElem_toArray, List.getElem_cons_zero, List.getElem_cons_succ, List.setIfInBounds_toArray, List.set_cons_zero, List.set_cons_succ]
        refine wpTop.take 1 (v := ?_) rfl (by kernel_rfl) (by kernel_rfl) (by kernel_rfl) (by kernel_rfl) (fun _ _ _ h => h) (Or.inl ⟨by rfl, ?_⟩) (by assumption) ?_
        rotate_left
        · intro w hSw; (try dsimp only at hSw); go_simp; try (with_reducible rfl)
        try simp only [Act.put, List.getElem_toArray, List.getElem_cons_zero, List.getElem_cons_succ, List.setIfInBounds_toArray, List.set_cons_zero, List.set_cons_succ]
        refine wpTop.take 2 (v := ?_) rfl (by kernel_rfl) (by kernel_rfl) (by kernel_rfl) (by kernel_rfl) (fun _ _ _ h => h) (Or.inl ⟨by rfl, ?_⟩) (by assumption) ?_
        rotate_left
        · intro w hSw; (try dsimp only at hSw); go_simp; try (with_reducible rfl)
        try simp only [Act.put, List.getElem_toArray, List.getElem_cons_zero, List.getElem_cons_succ, List.setIfInBounds_toArray, List.set_cons_zero, List.set_cons_succ]
        refine wpTop.take 3 (v := ?_) rfl (by kernel_rfl) (by kernel_rfl) (by kernel_rfl) (by kernel_rfl) (fun _ _ _ h => h) (Or.inl ⟨by rfl, ?_⟩) (by assumption) ?_
        rotate_left
        · intro w hSw; (try dsimp only at hSw); go_simp; try (with_reducible rfl)
        try simp only [Act.put, List.getElem_toArray, List.getElem_cons_zero, List.getElem_cons_succ, List.setIfInBounds_toArray, List.set_cons_zero, List.set_cons_succ]
        refine wpTop.take 4 (v := ?_) rfl (by kernel_rfl) (by kernel_rfl) (by kernel_rfl) (by kernel_rfl) (fun _ _ _ h => h) (Or.inl ⟨by rfl, ?_⟩) (by assumption) ?_
        rotate_left
        · intro w hSw; (try dsimp only at hSw); go_simp; try (with_reducible rfl)
        try simp only [Act.put, List.getElem_toArray, List.getElem_cons_zero, List.getElem_cons_succ, List.setIfInBounds_toArray, List.set_cons_zero, List.set_cons_succ]
        refine wpTop.take 5 (v := ?_) rfl (by kernel_rfl) (by kernel_rfl) (by kernel_rfl) (by kernel_rfl) (fun _ _ _ h => h) (Or.inl ⟨by rfl, ?_⟩) (by assumption) ?_
        rotate_left
        · intro w hSw; (try dsimp only at hSw); go_simp; try (with_reducible rfl)
        try simp only [Act.put, List.getElem_toArray, List.getElem_cons_zero, List.getElem_cons_succ, List.setIfInBounds_toArray, List.set_cons_zero, List.set_cons_succ]
        refine wpTop.one 6 rfl (by kernel_rfl) (fun K hK => ?_)
        go_simp
        have QD := HQR.out.step (w' := wr.drew) rfl rfl (fun q hq k' hk' => rfl)
        obtain ⟨w8, E8, hrun, K8, hE8, hkeys8, hg8⟩ := HKM.out wr.drew QD.km
        rw [hrun]
        have HK8 := Lib.hid K8
        have HE8 := Lib.hid hE8
        have HKE := Lib.hid hkeys8
        have HG8 := Lib.hid (grown_trans (show wr.grownBy wr.drew (some m) from ⟨rfl, rfl, rfl, Nat.le_refl _, fun _ _ _ => rfl⟩) hg8)
        clear K8 hE8 hkeys8 hg8 QD hrun z3 b0 b1 b2 b3
        go_simp
        refine hK.out _ _ (fun h => absurd h (by decide)) (fun hH => ?_)
        clear hK K hH
        refine wpTop.all (by kernel_rfl) ?_ _
        go_wp2_with fail
        go_ret
        have hg8 := HG8.out
        have hpos : 1 ≤ PL.length := by rw [← HCFE.out]; exact cS_pos h1 HF.out
        have hob : ∃ k', N ≤ k' ∧ (Value.slice A1 PL.length c1).ownBlock = some k' := by
          obtain ⟨g1', rfl⟩ := own_form HROW.out (by omega)
          exact ⟨g1', (own_lt HROW.out).1, rfl⟩
        have hrow8 : w8.ownsRow N 3 1 (.slice A1 PL.length c1) PL.length (nI PL) := own_blk HROW.out fun k' hk' => hg8.block k' (HROW.out.lt k' hk').2 (fun e => row_not_map HQR.out.km HROW.out hk' (Option.some.inj e))
        have hbm : b ≠ m := fun e => by
          obtain ⟨cur, fr, e1⟩ := HQR.out.sb
          obtain ⟨es, ck, e2, _⟩ := HQR.out.km.obj
          rw [e, e2] at e1
          injection e1 with e1
          cases e1
        have hb8 : w8.heap[b]? = wr.heap[b]? := hg8.block b HQR.out.sf.lt (fun e => hbm (Option.some.inj e))
        have hc8 : ∀ o, w8.cell? ⟨b, o, none⟩ = wr.cell? ⟨b, o, none⟩ := fun o => by simp only [World.cell?]; rw [hb8]
        refine ⟨A1, c1, E8, by rw [HCFE.out]; rfl, ⟨⟨(hc8 0).trans HQR.out.sf.c0, (hc8 1).trans HQR.out.sf.c1, (hc8 2).trans HQR.out.sf.c2, (hc8 3).trans HQR.out.sf.c3⟩, ?_, HK8.out, fun q hq => ?_, ?_⟩, by rw [HCFE.out]; exact own_base hrow8 (Nat.zero_le _), fun q hq => ?_, .inr (by rw [HCFE.out, ← HNQ.out]; exact hob), grown_trans HGWR.out hg8⟩
        · obtain ⟨cur, fr, e1⟩ := HQR.out.sb
          exact ⟨cur, fr, hb8.trans e1⟩
        · rcases HE8.out q hq with h | h
          · obtain ⟨f', A, c, e1, e2, e3, e4⟩ := HQR.out.ok q h
            exact ⟨f', A, c, e1, e2, e3, own_blk e4 fun k' hk' => hg8.block k' (e4.lt k' hk').2 (fun e => row_not_map HQR.out.km e4 hk' (Option.some.inj e))⟩
          · exact ⟨f, A1, c1, HF.out, by rw [h, HG.out], by rw [h, HCFE.out], by rw [HCFE.out]; exact own_base hrow8 (Nat.zero_le _)⟩
        · obtain ⟨q, hq, e⟩ := HQR.out.full
          obtain ⟨q', hq', e'⟩ := HKE.out q hq
          exact ⟨q', hq', e'.trans e⟩
        · rw [← HNQ.out]
          rcases HE8.out q hq with h | h
          · exact HFE.out q h
          · rw [h]; exact .inr hob
end Go.Proofs.Ytebnekicbcdnaaa
