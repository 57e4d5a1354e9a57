/- What a clue tells of a cut, and whether it fits: the model. -/
import Derived.Test.YtpbghalljfcaoaaPzJ
set_option linter.all false
namespace Go.Proofs.Ytpbghalljfcaoaa
open Go.RowKit Go.Shelf

set_option maxRecDepth 100000 in
set_option maxHeartbeats 8000000 in
theorem pv_1 (W H : Int) (A : Option Addr) (n c : Nat) (L : List Sq) (a : Int) (w : World) (hl : L.length = n) (hc : n ≤ c) (hL : SqsAt w w.heap.size A L) (hG : Good W H L) :
    Calls Try.prog 64 #[.int .i64 1, .int .i64 a, .agg #[.int .i64 W, .int .i64 H, .slice A n c]] w fun e w' => e = .returned (.int .i64 ((sideN L a : Nat))) ∧ Below w.heap.size w w' := by
  subst hl
  have B0 : Below w.heap.size w (w.alloc (.cells #[.int .i64 W, .int .i64 H, .slice A L.length c] 47)) := (Below.refl _ _).alloc (Nat.le_refl _) _
  have K0 := Cv3.start w (.int .i64 W) (.int .i64 H) (.slice A L.length c) 47
  have h30 : L.length ≤ 30 := hG.2.2.1.2
  have hf : ∀ s ∈ L, Fine s := fun s hs => by
    obtain ⟨j, hj⟩ := List.getElem?_of_mem hs
    exact (hG.2.2.2.1 j s hj).1.fine hG.1.2 hG.2.1.2
  obtain ⟨kl, k0, k1, k2⟩ := id K0
  go_enter Try.func64, Try.ntmps64
  go_wp2_with fail
  clear kl k0 k1 k2
  obtain ⟨W0, hW⟩ : ∃ W0, W0 = w.alloc (.cells #[.int .i64 W, .int .i64 H, .slice A L.length c] 47) := ⟨_, rfl⟩
  rw [← hW] at B0 K0 ⊢
  clear hW
  have HG := Lib.hid hG
  have HF := Lib.hid hf
  have hLT := (hL.below B0).mono B0.size
  clear hG hf
  go_loopw [7, 63] (fun q i wr => ∃ k : Nat, k ≤ L.length ∧ i = .int .i64 k ∧ q = .int .i64 ((sideN (L.take k) a : Nat)) ∧ Below W0.heap.size W0 wr ∧ Cv3 w.heap.size wr (.int .i64 W) (.int .i64 H) (.slice A L.length c)) (fun _ i _ => L.length - (intOf i).toNat)
  case atStart => exact ⟨0, Nat.zero_le _, rfl, by simp [sideN], Below.refl _ _, K0⟩
  case round =>
    obtain ⟨k, hk, rfl, rfl, hbr, KR⟩ := hrel
    by_cases hlt : k < L.length
    · obtain ⟨s, hs⟩ : ∃ s, L[k]? = some s := ⟨_, List.getElem?_eq_getElem hlt⟩
      obtain ⟨b, off, rfl, hb, c0, c1, c2⟩ := hLT k s hs
      have c0' := (hbr.cell (p := ⟨b, off + k * 3, none⟩) hb).trans c0
      have c1' := (hbr.cell (p := ⟨b, off + k * 3 + 1, none⟩) hb).trans c1
      have c2' := (hbr.cell (p := ⟨b, off + k * 3 + 2, none⟩) hb).trans c2
      have i0 : (0 : Int) ≤ (k : Int) := by omega
      have i1 : (k : Int) < (L.length : Int) := by omega
      have hz := KR.lt
      have hst : sideN (L.take (k + 1)) a = sideN (L.take k) a + (if s.d == a then 1 else 0) := by rw [List.take_add_one, hs]; exact sideN_app _ _ _
      have hsl := sideN_le (L.take k) a
      rw [List.length_take] at hsl
      obtain ⟨m, hm⟩ : ∃ m, sideN (L.take k) a = m := ⟨_, rfl⟩
      rw [hm] at hst hsl ⊢
      have HST := Lib.hid hst
      clear hst hm c0 c1 c2 hL hLT hs K0 B0
      obtain ⟨kl, k0, k1, k2⟩ := id KR
      cases hd : s.d == a with
      | true =>
        go_wp2_with fail
        have hb3 : Below wr.heap.size wr (wr.alloc (.cells #[.int .i64 s.x, .int .i64 s.y, .int .i64 s.d] 85)) := (Below.refl _ _).alloc (Nat.le_refl _) _
        have KN := KR.next hb3
        go_roundw
        case rel =>
          refine ⟨k + 1, by omega, by go_num, ?_, hbr.trans (hb3.mono hbr.size), KN⟩
          have he : sideN (L.take (k + 1)) a = m + 1 := (by rw [HST.out, hd]; simp)
          rw [he]; go_num
        case measure => simp [intOf]; omega
      | false =>
        go_wp2_with fail
        have hb3 : Below wr.heap.size wr (wr.alloc (.cells #[.int .i64 s.x, .int .i64 s.y, .int .i64 s.d] 85)) := (Below.refl _ _).alloc (Nat.le_refl _) _
        have KN := KR.next hb3
        go_roundw
        case rel =>
          refine ⟨k + 1, by omega, by go_num, ?_, hbr.trans (hb3.mono hbr.size), KN⟩
          have he : sideN (L.take (k + 1)) a = m := (by rw [HST.out, hd]; simp)
          rw [he]
        case measure => simp [intOf]; omega
    · obtain rfl : k = L.length := by omega
      rw [List.take_length]
      go_wp2_with fail
      go_ret
      exact ⟨rfl, B0.trans (hbr.mono B0.size)⟩
set_option maxRecDepth 100000 in
set_option maxHeartbeats 8000000 in
theorem pv_4 (W H : Int) (A : Option Addr) (n c : Nat) (L : List Sq) (a : Int) (w : World) (hl : L.length = n) (hc : n ≤ c) (hL : SqsAt w w.heap.size A L) (hG : Good W H L) :
    Calls Try.prog 64 #[.int .i64 4, .int .i64 a, .agg #[.int .i64 W, .int .i64 H, .slice A n c]] w fun e w' => e = .returned (.int .i64 (((crossL L L.length).length : Nat))) ∧ Below w.heap.size w w' := by
  subst hl
  have B0 : Below w.heap.size w (w.alloc (.cells #[.int .i64 W, .int .i64 H, .slice A L.length c] 47)) := (Below.refl _ _).alloc (Nat.le_refl _) _
  have K0 := Cv3.start w (.int .i64 W) (.int .i64 H) (.slice A L.length c) 47
  have h30 : L.length ≤ 30 := hG.2.2.1.2
  have hf : ∀ s ∈ L, Fine s := fun s hs => by
    obtain ⟨j, hj⟩ := List.getElem?_of_mem hs
    exact (hG.2.2.2.1 j s hj).1.fine hG.1.2 hG.2.1.2
  obtain ⟨kl, k0, k1, k2⟩ := id K0
  go_enter Try.func64, Try.ntmps64
  go_wp2_with fail
  clear kl k0 k1 k2
  obtain ⟨W0, hW⟩ : ∃ W0, W0 = w.alloc (.cells #[.int .i64 W, .int .i64 H, .slice A L.length c] 47) := ⟨_, rfl⟩
  rw [← hW] at B0 K0 ⊢
  clear hW
  have HG := Lib.hid hG
  have HF := Lib.hid hf
  have hLT := (hL.below B0).mono B0.size
  clear hG hf
  go_loopw [7, 63] (fun q i wr => ∃ k : Nat, k ≤ L.length ∧ i = .int .i64 k ∧ q = .int .i64 (((crossL L k).length : Nat)) ∧ Below W0.heap.size W0 wr ∧ Cv3 w.heap.size wr (.int .i64 W) (.int .i64 H) (.slice A L.length c)) (fun _ i _ => L.length - (intOf i).toNat)
  case atStart => exact ⟨0, Nat.zero_le _, rfl, by simp [crossL], Below.refl _ _, K0⟩
  case round =>
    obtain ⟨k, hk, rfl, rfl, hbr, KR⟩ := hrel
    by_cases hlt : k < L.length
    · obtain ⟨s, hs⟩ : ∃ s, L[k]? = some s := ⟨_, List.getElem?_eq_getElem hlt⟩
      obtain ⟨b, off, rfl, hb, c0, c1, c2⟩ := hLT k s hs
      have c0' := (hbr.cell (p := ⟨b, off + k * 3, none⟩) hb).trans c0
      have c1' := (hbr.cell (p := ⟨b, off + k * 3 + 1, none⟩) hb).trans c1
      have c2' := (hbr.cell (p := ⟨b, off + k * 3 + 2, none⟩) hb).trans c2
      have i0 : (0 : Int) ≤ (k : Int) := by omega
      have i1 : (k : Int) < (L.length : Int) := by omega
      have hz := KR.lt
      have hst := congrArg List.length (crossL_succ L k s hs)
      have hsl := crossL_len L k
      rw [List.length_append] at hst
      obtain ⟨m, hm⟩ : ∃ m, (crossL L k).length = m := ⟨_, rfl⟩
      rw [hm] at hst hsl ⊢
      have HST := Lib.hid hst
      have hcn := corN_le L s.x s.y L.length
      have C := fun w' (hb' : Below wr.heap.size wr w') => cuCorners_any W H (some ⟨b, off, none⟩) L.length c L s.x s.y w' rfl h30 ((hLT.below (hbr.trans (hb'.mono hbr.size))).mono (Nat.le_trans hbr.size hb'.size)) HF.out
      obtain ⟨N, hN⟩ : ∃ N, corN L s.x s.y L.length = N := ⟨_, rfl⟩
      rw [hN] at C hcn
      have HN := Lib.hid hN
      clear hN hst hm c0 c1 c2 hL hLT hs K0 B0
      obtain ⟨kl, k0, k1, k2⟩ := id KR
      cases hd : (N : Int) == 4 with
      | true =>
        go_wp2_with fail
        clear kl k0 k1 k2
        obtain ⟨W1, hW1⟩ : ∃ W1, W1 = wr.alloc (.cells #[.int .i64 s.x, .int .i64 s.y, .int .i64 s.d] 85) := ⟨_, rfl⟩
        have hb1 : Below wr.heap.size wr W1 := by rw [hW1]; exact (Below.refl _ _).alloc (Nat.le_refl _) _
        rw [← hW1]
        clear hW1
        refine (C W1 hb1).mono ?_
        rintro e w2 ⟨rfl, hb2⟩
        have hb3 := hb1.trans (hb2.mono hb1.size)
        clear c0' c1' c2' C
        have KN := KR.next hb3
        have hz2 := hb3.size
        go_wp2_with fail
        go_roundw
        case rel =>
          refine ⟨k + 1, by omega, by go_num, ?_, hbr.trans (hb3.mono hbr.size), KN⟩
          have he : (crossL L (k + 1)).length = m + 1 := (by have h := HST.out; rw [HN.out, (show (N == 4) = true by simp at hd ⊢; omega)] at h; simp at h; omega)
          rw [he]; go_num
        case measure => simp [intOf]; omega
      | false =>
        go_wp2_with fail
        clear kl k0 k1 k2
        obtain ⟨W1, hW1⟩ : ∃ W1, W1 = wr.alloc (.cells #[.int .i64 s.x, .int .i64 s.y, .int .i64 s.d] 85) := ⟨_, rfl⟩
        have hb1 : Below wr.heap.size wr W1 := by rw [hW1]; exact (Below.refl _ _).alloc (Nat.le_refl _) _
        rw [← hW1]
        clear hW1
        refine (C W1 hb1).mono ?_
        rintro e w2 ⟨rfl, hb2⟩
        have hb3 := hb1.trans (hb2.mono hb1.size)
        clear c0' c1' c2' C
        have KN := KR.next hb3
        have hz2 := hb3.size
        go_wp2_with fail
        go_roundw
        case rel =>
          refine ⟨k + 1, by omega, by go_num, ?_, hbr.trans (hb3.mono hbr.size), KN⟩
          have he : (crossL L (k + 1)).length = m := (by have h := HST.out; rw [HN.out, (show (N == 4) = false by simp at hd ⊢; omega)] at h; simp at h; omega)
          rw [he]
        case measure => simp [intOf]; omega
    · obtain rfl : k = L.length := by omega
      go_wp2_with fail
      go_ret
      exact ⟨rfl, B0.trans (hbr.mono B0.size)⟩
theorem pv_any (k a : Int) (hk : 0 ≤ k ∧ k ≤ 5) (ha : k = 3 → 0 ≤ a ∧ a ≤ 3) (W H : Int) (A : Option Addr) (n c : Nat) (L : List Sq) (w : World) (hl : L.length = n) (hc : n ≤ c) (hL : SqsAt w w.heap.size A L) (hG : Good W H L) :
    Calls Try.prog 64 #[.int .i64 k, .int .i64 a, .agg #[.int .i64 W, .int .i64 H, .slice A n c]] w fun e w' => e = .returned (.int .i64 (valN W H L k a)) ∧ Below w.heap.size w w' := by
  rcases (by omega : k = 0 ∨ k = 1 ∨ k = 2 ∨ k = 3 ∨ k = 4 ∨ k = 5) with rfl | rfl | rfl | rfl | rfl | rfl
  · exact pv_0 W H A n c L a w hl hc hL hG
  · exact pv_1 W H A n c L a w hl hc hL hG
  · exact pv_2 W H A n c L a w hl hc hL hG
  · obtain ⟨i, rfl⟩ : ∃ i : Nat, a = i := ⟨a.toNat, by have := ha rfl; omega⟩
    exact pv_3 W H A n c L i w hl hc hL hG (by have := ha rfl; omega)
  · exact pv_4 W H A n c L a w hl hc hL hG
  · exact pv_5 W H A n c L a w hl hc hL hG
theorem pzAlone_any (k : Int) (w : World) : Calls Try.prog 54 #[.int .i64 k] w fun e w' => e = .returned (.bool (aloneB k)) ∧ w = w' := by
  unfold aloneB
  cases h0 : k == 0 with
  | true =>
    go_enter Try.func54, Try.ntmps54
    go_wp2
    go_ret
    exact ⟨by simp, rfl⟩
  | false =>
    cases h3 : decide (3 < k) with
    | true =>
      go_enter Try.func54, Try.ntmps54
      go_wp2
      go_ret
      exact ⟨by simp, rfl⟩
    | false =>
      go_enter Try.func54, Try.ntmps54
      go_wp2
      go_ret
      exact ⟨by simp, rfl⟩
set_option maxRecDepth 100000 in
set_option maxHeartbeats 4000000 in
theorem pzFits_any (s : Sq) (W H : Int) (A : Option Addr) (n c : Nat) (L : List Sq) (w : World) (hl : L.length = n) (hc : n ≤ c) (hL : SqsAt w w.heap.size A L) (hG : Good W H L) (hs : AskOk s) :
    Calls Try.prog 41 #[.agg #[.int .i64 s.x, .int .i64 s.y, .int .i64 s.d], .agg #[.int .i64 W, .int .i64 H, .slice A n c]] w fun e w' => e = .returned (.bool (fitN W H L s)) ∧ Below w.heap.size w w' := by
  subst hl
  have B0 : Below w.heap.size w ((w.alloc (.cells #[.int .i64 s.x, .int .i64 s.y, .int .i64 s.d] 25)).alloc (.cells #[.int .i64 W, .int .i64 H, .slice A L.length c] 47)) := ((Below.refl _ _).alloc (Nat.le_refl _) _).alloc (by simp) _
  have K0 := (Cv3.start w (.int .i64 s.x) (.int .i64 s.y) (.int .i64 s.d) 25).next ((Below.refl _ _).alloc (Nat.le_refl _) (.cells #[.int .i64 W, .int .i64 H, .slice A L.length c] 47))
  have J0 := Cv3.start (w.alloc (.cells #[.int .i64 s.x, .int .i64 s.y, .int .i64 s.d] 25)) (.int .i64 W) (.int .i64 H) (.slice A L.length c) 47
  rw [World.size_alloc] at J0
  have CA := fun w' => pzAlone_any s.x w'
  cases ha : aloneB s.x with
  | true =>
    rw [ha] at CA
    go_enter Try.func41, Try.ntmps41
    go_wp2_with fail
    obtain ⟨W0, hW0⟩ : ∃ W0, W0 = (w.alloc (.cells #[.int .i64 s.x, .int .i64 s.y, .int .i64 s.d] 25)).alloc (.cells #[.int .i64 W, .int .i64 H, .slice A L.length c] 47) := ⟨_, rfl⟩
    rw [← hW0] at B0 K0 J0 ⊢
    clear hW0
    refine (CA _).mono ?_
    rintro e w' ⟨rfl, rfl⟩
    go_wp2_with fail
    have hB : ∀ u : Later W0.heap.size W0, Below w.heap.size w u.val := fun u => B0.trans (u.ok.mono B0.size)
    have C := fun (u : Later W0.heap.size W0) => pv_any s.x 0 hs.1 (fun h => by omega) W H A L.length c L u.val rfl hc ((hL.below (hB u)).mono (hB u).size) hG
    have F0 : ∀ u : Later W0.heap.size W0, u.val.cell? ⟨w.heap.size, 0, none⟩ = some (.int .i64 s.x) := fun u => (u.ok.cell (p := ⟨_, _, none⟩) K0.lt).trans K0.c0
    have F1 : ∀ u : Later W0.heap.size W0, u.val.cell? ⟨w.heap.size, 1, none⟩ = some (.int .i64 s.y) := fun u => (u.ok.cell (p := ⟨_, _, none⟩) K0.lt).trans K0.c1
    have F2 : ∀ u : Later W0.heap.size W0, u.val.cell? ⟨w.heap.size, 2, none⟩ = some (.int .i64 s.d) := fun u => (u.ok.cell (p := ⟨_, _, none⟩) K0.lt).trans K0.c2
    have G0 : ∀ u : Later W0.heap.size W0, u.val.cell? ⟨w.heap.size + 1, 0, none⟩ = some (.int .i64 W) := fun u => (u.ok.cell (p := ⟨_, _, none⟩) J0.lt).trans J0.c0
    have G1 : ∀ u : Later W0.heap.size W0, u.val.cell? ⟨w.heap.size + 1, 1, none⟩ = some (.int .i64 H) := fun u => (u.ok.cell (p := ⟨_, _, none⟩) J0.lt).trans J0.c1
    have G2 : ∀ u : Later W0.heap.size W0, u.val.cell? ⟨w.heap.size + 1, 2, none⟩ = some (.slice A L.length c) := fun u => (u.ok.cell (p := ⟨_, _, none⟩) J0.lt).trans J0.c2
    refine wp_region_sub W0.heap.size (by kernel_rfl) (by kernel_rfl) ?_
    repeat (first | go_big_quiet_step ((go_at_call 64; exact sub_of _ (Nat.le_refl _) (C _))) | quiet_step ((go_at_call 64; exact sub_of _ (Nat.le_refl _) (C _))))
    refine wpQuiet_nil ?_
    rintro w3 ⟨uu, hu⟩
    have hb2 : Below W0.heap.size W0 w3 := by rw [hu]; exact uu.ok
    clear hu uu F0 F1 F2 G0 G1 G2 C
    go_wp2_with fail
    go_ret
    exact ⟨ret_bool (by unfold fitN; rw [ha]; rfl), B0.trans (hb2.mono B0.size)⟩
  | false =>
    rw [ha] at CA
    go_enter Try.func41, Try.ntmps41
    go_wp2_with fail
    obtain ⟨W0, hW0⟩ : ∃ W0, W0 = (w.alloc (.cells #[.int .i64 s.x, .int .i64 s.y, .int .i64 s.d] 25)).alloc (.cells #[.int .i64 W, .int .i64 H, .slice A L.length c] 47) := ⟨_, rfl⟩
    rw [← hW0] at B0 K0 J0 ⊢
    clear hW0
    refine (CA _).mono ?_
    rintro e w' ⟨rfl, rfl⟩
    go_wp2_with fail
    have hB : ∀ u : Later W0.heap.size W0, Below w.heap.size w u.val := fun u => B0.trans (u.ok.mono B0.size)
    have C := fun (u : Later W0.heap.size W0) => pv_any s.x s.y hs.1 hs.2 W H A L.length c L u.val rfl hc ((hL.below (hB u)).mono (hB u).size) hG
    have F0 : ∀ u : Later W0.heap.size W0, u.val.cell? ⟨w.heap.size, 0, none⟩ = some (.int .i64 s.x) := fun u => (u.ok.cell (p := ⟨_, _, none⟩) K0.lt).trans K0.c0
    have F1 : ∀ u : Later W0.heap.size W0, u.val.cell? ⟨w.heap.size, 1, none⟩ = some (.int .i64 s.y) := fun u => (u.ok.cell (p := ⟨_, _, none⟩) K0.lt).trans K0.c1
    have F2 : ∀ u : Later W0.heap.size W0, u.val.cell? ⟨w.heap.size, 2, none⟩ = some (.int .i64 s.d) := fun u => (u.ok.cell (p := ⟨_, _, none⟩) K0.lt).trans K0.c2
    have G0 : ∀ u : Later W0.heap.size W0, u.val.cell? ⟨w.heap.size + 1, 0, none⟩ = some (.int .i64 W) := fun u => (u.ok.cell (p := ⟨_, _, none⟩) J0.lt).trans J0.c0
    have G1 : ∀ u : Later W0.heap.size W0, u.val.cell? ⟨w.heap.size + 1, 1, none⟩ = some (.int .i64 H) := fun u => (u.ok.cell (p := ⟨_, _, none⟩) J0.lt).trans J0.c1
    have G2 : ∀ u : Later W0.heap.size W0, u.val.cell? ⟨w.heap.size + 1, 2, none⟩ = some (.slice A L.length c) := fun u => (u.ok.cell (p := ⟨_, _, none⟩) J0.lt).trans J0.c2
    refine wp_region_sub W0.heap.size (by kernel_rfl) (by kernel_rfl) ?_
    repeat (first | go_big_quiet_step ((go_at_call 64; exact sub_of _ (Nat.le_refl _) (C _))) | quiet_step ((go_at_call 64; exact sub_of _ (Nat.le_refl _) (C _))))
    refine wpQuiet_nil ?_
    rintro w3 ⟨uu, hu⟩
    have hb2 : Below W0.heap.size W0 w3 := by rw [hu]; exact uu.ok
    clear hu uu F0 F1 F2 G0 G1 G2 C
    go_wp2_with fail
    go_ret
    exact ⟨ret_bool (by unfold fitN; rw [ha]; rfl), B0.trans (hb2.mono B0.size)⟩
end Go.Proofs.Ytpbghalljfcaoaa
