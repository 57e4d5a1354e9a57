/- Contract of the program's IsCut. -/
import Derived.Test.YtebnekicbcdnaaaImp
set_option linter.all false
namespace Go.Proofs.Ytebnekicbcdnaaa
open Go.RowKit

def area : List Sq → Int
  | [] => 0
  | s :: r => s.d * s.d + area r
theorem area_app (L M : List Sq) : area (L ++ M) = area L + area M := by
  induction L with
  | nil => simp [area]
  | cons s r ih => simp [area, ih]; omega
theorem area_take_succ (L : List Sq) (k : Nat) (s : Sq) (h : L[k]? = some s) : area (L.take (k + 1)) = area (L.take k) + s.d * s.d := by
  rw [List.take_add_one, h, area_app]
  simp [area]
theorem sq_bound {d : Int} (h0 : 1 ≤ d) (h1 : d ≤ 500) : 1 ≤ d * d ∧ d * d ≤ 250000 :=
  ⟨by have := Int.mul_le_mul h0 h0 (by decide) (by omega); omega, by have := Int.mul_le_mul h1 h1 (by omega) (by decide); omega⟩
theorem mul_bound {a b : Int} (h0 : 1 ≤ a) (h1 : a ≤ 500) (k0 : 1 ≤ b) (k1 : b ≤ 500) : 1 ≤ a * b ∧ a * b ≤ 250000 :=
  ⟨by have := Int.mul_le_mul h0 k0 (by decide) (by omega); omega, by have := Int.mul_le_mul h1 k1 (by omega) (by decide); omega⟩

def Within (q : Sq) (W H : Int) : Prop := 1 ≤ q.d ∧ 0 ≤ q.x ∧ q.x ≤ W - q.d ∧ 0 ≤ q.y ∧ q.y ≤ H - q.d
def OkI (W H : Int) (L : List Sq) (j : Nat) (q : Sq) : Prop := Within q W H ∧ ∀ i p, i < j → L[i]? = some p → ¬ Over q p
def GoodI (W H : Int) (L : List Sq) : Prop := (1 ≤ W ∧ W ≤ 500) ∧ (1 ≤ H ∧ H ≤ 500) ∧ L.length ≤ 30 ∧ (∀ j q, L[j]? = some q → OkI W H L j q) ∧ area L = W * H ∧ Sorted L
theorem Within.fine {q : Sq} {W H : Int} (h : Within q W H) (hW : W ≤ 500) (hH : H ≤ 500) : Fine q := by
  unfold Within at h; unfold Fine; omega

theorem isCut_size (W H : Int) (A : Option Addr) (n c : Nat) (w : World) (h : ¬ ((1 ≤ W ∧ W ≤ 500) ∧ (1 ≤ H ∧ H ≤ 500) ∧ n ≤ 30)) :
    Calls Try.prog 98 #[.agg #[.int .i64 W, .int .i64 H, .slice A n c]] w fun e w' => e = .returned (.bool false) ∧ Below w.heap.size w w' := by
  by_cases h1 : (1 ≤ W ∧ W ≤ 500) ∧ (1 ≤ H ∧ H ≤ 500)
  · have d1 : Hid ((inB W 1 500 && inB H 1 500) = true) := by show (inB W 1 500 && inB H 1 500) = true; rw [inB_iff.2 h1.1, inB_iff.2 h1.2]; rfl
    have h3 : ¬ n ≤ 30 := fun h' => h ⟨h1.1, h1.2, h'⟩
    have h4 : (30 : Int) < n := by omega
    clear h h1
    go_enter Try.func98, Try.ntmps98
    go_wp2_with fail
    refine (areUpTo_any _ _ _ _).mono ?_
    rw [d1.out]
    rintro e w' ⟨rfl, rfl⟩
    go_wp2_with fail
    go_ret
    exact ⟨rfl, (Below.refl _ _).alloc (Nat.le_refl _) _⟩
  · have d1 : Hid ((inB W 1 500 && inB H 1 500) = false) := by show (inB W 1 500 && inB H 1 500) = false; simp [inB]; omega
    clear h h1
    go_enter Try.func98, Try.ntmps98
    go_wp2_with fail
    refine (areUpTo_any _ _ _ _).mono ?_
    rw [d1.out]
    rintro e w' ⟨rfl, rfl⟩
    go_wp2_with fail
    go_ret
    exact ⟨rfl, (Below.refl _ _).alloc (Nat.le_refl _) _⟩

set_option maxHeartbeats 1000000 in
theorem isCut_loop (W H : Int) (A : Option Addr) (n c : Nat) (L : List Sq) (w : World) (hl : L.length = n) (hn : n ≤ 30) (hc : n ≤ c) (hL : SqsAt w w.heap.size A L) (hwf : ∀ s ∈ L, wfS s)
    (w0 : 1 ≤ W) (w1 : W ≤ 500) (h0 : 1 ≤ H) (h1 : H ≤ 500) :
    Calls Try.prog 98 #[.agg #[.int .i64 W, .int .i64 H, .slice A n c]] w (RetB w (GoodI W H L)) := by
  obtain ⟨a0, a1⟩ := mul_bound w0 w1 h0 h1
  have d1 : Hid ((inB W 1 500 && inB H 1 500) = true) := by show (inB W 1 500 && inB H 1 500) = true; rw [inB_iff.2 ⟨w0, w1⟩, inB_iff.2 ⟨h0, h1⟩]; rfl
  go_enter Try.func98, Try.ntmps98
  go_wp2_with fail
  refine (areUpTo_any _ _ _ _).mono ?_
  rw [d1.out]
  rintro e w' ⟨rfl, rfl⟩
  go_wp2_with fail
  clear d1
  go_loopw [3, 26] (fun fr i wr => ∃ (k : Nat) (f : Int), k ≤ n ∧ i = .int .i64 k ∧ fr = .int .i64 f ∧ -(250000 * (k : Int)) ≤ f ∧ f ≤ 250000 ∧ Below w.heap.size w wr ∧ w.heap.size < wr.heap.size ∧
      wr.cell? ⟨w.heap.size, 0, none⟩ = some (.int .i64 W) ∧ wr.cell? ⟨w.heap.size, 1, none⟩ = some (.int .i64 H) ∧ wr.cell? ⟨w.heap.size, 2, none⟩ = some (.slice A n c) ∧
      f = W * H - area (L.take k) ∧ (∀ (j : Nat) q, j < k → L[j]? = some q → OkI W H L j q)) (fun _ i _ => n - (intOf i).toNat)
  case atStart =>
    refine ⟨0, W * H, Nat.zero_le _, rfl, rfl, by omega, by omega, ?_, by simp, by simp, by simp, by simp, by simp [area], fun j q h => by omega⟩
    exact (Below.refl _ _).alloc (Nat.le_refl _) _
  case round =>
    obtain ⟨k, f, hk, rfl, rfl, f0, f1, hbr, hgw, e0, e1, e2, hf, hdone⟩ := hrel
    by_cases hlt : k < n
    · obtain ⟨q, hq⟩ : ∃ s, L[k]? = some s := ⟨_, List.getElem?_eq_getElem (by omega)⟩
      have hLw := hL.below hbr
      clear hL
      obtain ⟨b, off, rfl, hb, c0, c1, c2⟩ := hLw k q hq
      have HF := Lib.hid hf
      have HQ := Lib.hid hq
      have HD := Lib.hid hdone
      have HLen := Lib.hid hl
      clear hq hl hdone hf
      have k0 : (0 : Int) ≤ (k : Int) := by omega
      have k1 : (k : Int) < (n : Int) := by omega
      go_wp2_with fail
      obtain ⟨W1, hW1⟩ : ∃ W1, W1 = wr.alloc (.cells #[.int .i64 q.x, .int .i64 q.y, .int .i64 q.d] 96) := ⟨_, rfl⟩
      have hsz : wr.heap.size + 1 ≤ W1.heap.size := by rw [hW1]; simp
      have hB1 : Below w.heap.size w W1 := by rw [hW1]; exact hbr.alloc (by omega) _
      have hB2 : Below wr.heap.size wr W1 := by rw [hW1]; exact (Below.refl _ _).alloc (Nat.le_refl _) _
      have S0 : W1.cell? ⟨wr.heap.size, 0, none⟩ = some (.int .i64 q.x) := by rw [hW1]; simp
      have S1 : W1.cell? ⟨wr.heap.size, 1, none⟩ = some (.int .i64 q.y) := by rw [hW1]; simp
      have S2 : W1.cell? ⟨wr.heap.size, 2, none⟩ = some (.int .i64 q.d) := by rw [hW1]; simp
      rw [← hW1]
      clear hW1
      have E : ∀ j v, wr.cell? ⟨w.heap.size, j, none⟩ = some v → ∀ u : Later (wr.heap.size + 1) W1, u.val.cell? ⟨w.heap.size, j, none⟩ = some v := fun j v h u =>
        (u.ok.cell (p := ⟨w.heap.size, j, none⟩) (by show w.heap.size < wr.heap.size + 1; omega)).trans ((hB2.cell (p := ⟨w.heap.size, j, none⟩) hgw).trans h)
      have E0 := E 0 _ e0
      have E1 := E 1 _ e1
      have E2 := E 2 _ e2
      have T0 : ∀ u : Later (wr.heap.size + 1) W1, u.val.cell? ⟨wr.heap.size, 0, none⟩ = some (.int .i64 q.x) := fun u => (u.ok.cell (p := ⟨wr.heap.size, 0, none⟩) (Nat.lt_succ_self _)).trans S0
      have T1 : ∀ u : Later (wr.heap.size + 1) W1, u.val.cell? ⟨wr.heap.size, 1, none⟩ = some (.int .i64 q.y) := fun u => (u.ok.cell (p := ⟨wr.heap.size, 1, none⟩) (Nat.lt_succ_self _)).trans S1
      have T2 : ∀ u : Later (wr.heap.size + 1) W1, u.val.cell? ⟨wr.heap.size, 2, none⟩ = some (.int .i64 q.d) := fun u => (u.ok.cell (p := ⟨wr.heap.size, 2, none⟩) (Nat.lt_succ_self _)).trans S2
      have hBu : ∀ u : Later (wr.heap.size + 1) W1, Below w.heap.size w u.val := fun u => hB1.trans (u.ok.mono (by omega))
      have hLu := Lib.hid (fun u : Later (wr.heap.size + 1) W1 => ((hLw.below (hB2.mono (by omega))).below (u.ok.mono (by omega))).take k |>.mono (hBu u).size)
      clear E S0 S1 S2 c0 c1 c2 hLw
      have hfine : ∀ p ∈ L.take k, Fine p := fun p hp => by
        obtain ⟨j, hj⟩ := List.mem_iff_getElem?.1 hp
        rw [List.getElem?_take] at hj
        split at hj
        · exact (HD.out j p (by assumption) hj).1.fine w1 h1
        · cases hj
      have HFi := Lib.hid hfine
      clear hfine
      by_cases hq : Within q W H
      · have hfq := hq.fine w1 h1
        have hq' := hq
        unfold Within at hq'
        have CW := fun u : Later (wr.heap.size + 1) W1 => callB_yes (isWithin_any q.x q.y q.d W H (by omega) (by omega) (by omega) (by omega) (by omega) u.val) hq
        by_cases ho : ∃ p ∈ L.take k, Over q p
        · have CO := fun u : Later (wr.heap.size + 1) W1 => callB_yes (overlapsAny_any q (some ⟨b, off, none⟩) k c (L.take k) u.val (by have := HLen.out; simp; omega) (by omega) (by omega) (hLu.out u) (hq.fine w1 h1) HFi.out) ho
          refine wp_region_sub (wr.heap.size + 1) (by kernel_rfl) (by kernel_rfl) ?_
          repeat (first | go_big_quiet_step (((first | (go_at_call 112; exact sub_of _ hsz (CW _)) | (go_at_call 113; exact sub_of _ hsz (CO _))))) | quiet_step (((first | (go_at_call 112; exact sub_of _ hsz (CW _)) | (go_at_call 113; exact sub_of _ hsz (CO _))))))
          refine wpQuiet_nil ?_
          rintro w2 ⟨uu, hu⟩; have hb2 := uu.ok; rw [← hu] at hb2; clear hu uu
          go_wp2_with fail
          go_ret
          refine ⟨ret_dc ?_, (hB1.trans (hb2.mono (by omega)))⟩
          simp only [Bool.false_eq_true, false_iff]
          intro hG
          obtain ⟨p, hp, hov⟩ := ho
          obtain ⟨j, hj⟩ := List.mem_iff_getElem?.1 hp
          rw [List.getElem?_take] at hj
          split at hj
          · exact (hG.2.2.2.1 k q HQ.out).2 j p (by assumption) hj hov
          · cases hj
        · have CO := fun u : Later (wr.heap.size + 1) W1 => callB_no (overlapsAny_any q (some ⟨b, off, none⟩) k c (L.take k) u.val (by have := HLen.out; simp; omega) (by omega) (by omega) (hLu.out u) (hq.fine w1 h1) HFi.out) ho
          refine wp_region_sub (wr.heap.size + 1) (by kernel_rfl) (by kernel_rfl) ?_
          repeat (first | go_big_quiet_step (((first | (go_at_call 112; exact sub_of _ hsz (CW _)) | (go_at_call 113; exact sub_of _ hsz (CO _))))) | quiet_step (((first | (go_at_call 112; exact sub_of _ hsz (CW _)) | (go_at_call 113; exact sub_of _ hsz (CO _))))))
          refine wpQuiet_nil ?_
          rintro w2 ⟨uu, hu⟩; have hb2 := uu.ok; rw [← hu] at hb2; clear hu uu
          have T2' := T2 ⟨w2, hb2⟩
          have E0' := E0 ⟨w2, hb2⟩
          have E1' := E1 ⟨w2, hb2⟩
          have E2' := E2 ⟨w2, hb2⟩
          have hB3 := hB1.trans (hb2.mono (by omega : w.heap.size ≤ wr.heap.size + 1))
          have hZ : w.heap.size < w2.heap.size := by have := hb2.size; omega
          obtain ⟨q0, q1⟩ := sq_bound hq'.1 (show q.d ≤ 500 by omega)
          simp only at T2' E0' E1' E2'
          clear T0 T1 T2 E0 E1 E2 CW CO hBu hb2 hB1 hB2 hsz
          go_wp2_with fail
          go_roundw
          case rel =>
            refine ⟨k + 1, f - q.d * q.d, by omega, by go_num, rfl, by omega, by omega, hB3, hZ, E0', E1', E2', ?_, ?_⟩
            · rw [area_take_succ L k q HQ.out, HF.out]; omega
            · intro j p hj hp
              by_cases e : j = k
              · subst e
                obtain rfl := Option.some.inj (HQ.out.symm.trans hp)
                refine ⟨hq, fun i p' hi hp' hov => ho ⟨p', ?_, hov⟩⟩
                exact List.mem_of_getElem? (i := i) (by rw [List.getElem?_take, if_pos hi]; exact hp')
              · exact HD.out j p (by omega) hp
          case measure => simp [intOf]; omega
      · have CW := fun u : Later (wr.heap.size + 1) W1 => callB_no (isWithin_any q.x q.y q.d W H (by omega) (by omega) (by omega) (by omega) (by have := hwf q (List.mem_of_getElem? HQ.out); unfold wfS wfI at this; omega) u.val) hq
        refine wp_region_sub (wr.heap.size + 1) (by kernel_rfl) (by kernel_rfl) ?_
        repeat (first | go_big_quiet_step (((go_at_call 112; exact sub_of _ hsz (CW _)))) | quiet_step (((go_at_call 112; exact sub_of _ hsz (CW _)))))
        refine wpQuiet_nil ?_
        rintro w2 ⟨uu, hu⟩; have hb2 := uu.ok; rw [← hu] at hb2; clear hu uu
        go_wp2_with fail
        go_ret
        refine ⟨ret_dc ?_, (hB1.trans (hb2.mono (by omega)))⟩
        simp only [Bool.false_eq_true, false_iff]
        intro hG
        exact hq (hG.2.2.2.1 k q HQ.out).1
    · obtain rfl : k = n := by omega
      subst hl
      have hLw := hL.below hbr
      rw [List.take_of_length_le (Nat.le_refl _)] at hf
      have HF := Lib.hid hf
      have HD := Lib.hid hdone
      clear hf hdone hL
      by_cases hz : f = 0
      · subst hz
        go_wp2_with fail
        by_cases hs : Sorted L
        · refine (callB_yes (isSorted_any A _ c L wr rfl (by omega) (hLw.mono hbr.size)) hs).mono ?_
          rintro e w' ⟨rfl, hb'⟩
          go_wp2_with fail
          go_ret
          refine ⟨ret_dc ?_, hbr.trans (hb'.mono hbr.size)⟩
          simp only [true_iff]
          exact ⟨⟨w0, w1⟩, ⟨h0, h1⟩, hn, fun j q hj => HD.out j q (List.getElem?_eq_some_iff.1 hj).1 hj, by have := HF.out; omega, hs⟩
        · refine (callB_no (isSorted_any A _ c L wr rfl (by omega) (hLw.mono hbr.size)) hs).mono ?_
          rintro e w' ⟨rfl, hb'⟩
          go_wp2_with fail
          go_ret
          refine ⟨ret_dc ?_, hbr.trans (hb'.mono hbr.size)⟩
          simp only [Bool.false_eq_true, false_iff]
          exact fun hG => hs hG.2.2.2.2.2
      · have hz' : (f == 0) = false := by simpa using hz
        go_wp2_with fail
        go_ret
        refine ⟨ret_dc ?_, hbr⟩
        simp only [Bool.false_eq_true, false_iff]
        intro hG
        have := hG.2.2.2.2.1
        have := HF.out
        omega

theorem isCut_any (W H : Int) (A : Option Addr) (n c : Nat) (L : List Sq) (w : World) (hl : L.length = n) (hc : n ≤ c) (hL : SqsAt w w.heap.size A L) (hwf : ∀ s ∈ L, wfS s) :
    Calls Try.prog 98 #[.agg #[.int .i64 W, .int .i64 H, .slice A n c]] w (RetB w (GoodI W H L)) := by
  by_cases h : (1 ≤ W ∧ W ≤ 500) ∧ (1 ≤ H ∧ H ≤ 500) ∧ n ≤ 30
  · exact isCut_loop W H A n c L w hl h.2.2 hc hL hwf h.1.1 h.1.2 h.2.1.1 h.2.1.2
  · refine (isCut_size W H A n c w h).mono ?_
    rintro e w' ⟨rfl, hb⟩
    refine ⟨ret_dc ?_, hb⟩
    simp only [Bool.false_eq_true, false_iff]
    exact fun hG => h ⟨hG.1, hG.2.1, by rw [← hl]; exact hG.2.2.1⟩
end Go.Proofs.Ytebnekicbcdnaaa
