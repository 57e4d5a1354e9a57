/- CutOfWord: the program's and the model's. -/
import Derived.Test.YtlfikjjdhmaemaaSidW
import Derived.Test.YtlfikjjdhmaemaaCutOfI
import Derived.Test.YtlfikjjdhmaemaaCutOfJ
set_option linter.all false
namespace Go.Proofs.Ytlfikjjdhmaemaa
open Go.RowKit

theorem own_none {w : World} {base size n c : Nat} {e : TypeId} {A : Option Addr} {xs : List Value} (h : w.ownsRow base e size (.slice A n c) n xs) (hA : A = none) : n = 0 ∧ c = 0 := by
  subst hA
  rcases h.2 with ⟨hv, h0⟩ | ⟨g, cap, cur, he, _⟩
  · simp only [Value.slice.injEq] at hv
    exact ⟨h0, hv.2.2⟩
  · simp only [Value.slice.injEq] at he
    cases he.1
theorem putQ_wf (s : ByteArray) : ∀ q ∈ putQ s, wfS q := by
  by_cases h : WordG (wcs s)
  · intro q hq
    have := (putQ_bnd h).2 q hq
    unfold wfS wfI
    omega
  · rw [(put_no h).2.2]
    intro q hq
    cases hq
theorem putQ_len (s : ByteArray) : (putQ s).length ≤ 21 := by
  by_cases h : WordG (wcs s)
  · exact (putQ_bnd h).1.2
  · rw [(put_no h).2.2]; decide
def RetWord (w : World) (s : ByteArray) (e : Ending) (w' : World) : Prop := RetMake w (putA s) (putB s) (putQ s) e w'
set_option maxRecDepth 100000 in
set_option maxHeartbeats 4000000 in
theorem implCutW_any (s : ByteArray) (w : World) (hs : s.size ≤ 1048576) : Calls Try.prog 39 #[.string s] w (RetWord w s) := by
  obtain ⟨W1, hW1⟩ : ∃ W1, W1 = w.alloc (.cells #[.int .i64 0, .int .i64 0, .slice none 0 0] 29) := ⟨_, rfl⟩
  have q1 : Bx w.heap.size W1 0 0 none 0 0 := by rw [hW1]; exact Bx.start _ _ _ _ _ _ _
  have qf : ∀ o, W1.frozen? ⟨w.heap.size, o, none⟩ = false := by intro o; rw [hW1]; exact World.frozen?_alloc_at _ _ _ _ rfl
  have hB1 : Below w.heap.size w W1 := by rw [hW1]; exact (Below.refl _ _).alloc (Nat.le_refl _) _
  have hz1 := q1.lt
  have hp := putOn_any s W1 hs
  unfold RetPut at hp
  have hm := fun A n c w hl hn hA hL => implCutOf_any (putA s) (putB s) A n c (putQ s) w hl hn hA hL (putQ_wf s)
  unfold RetMake at hm
  have hQ21 := putQ_len s
  obtain ⟨P, hP⟩ : ∃ P, cutX (putA s) (putB s) (srt (putQ s)) (putA s) = P := ⟨_, rfl⟩
  obtain ⟨V, hV⟩ : ∃ V, cutX (putA s) (putB s) (srt (putQ s)) (putB s) = V := ⟨_, rfl⟩
  obtain ⟨R, hR⟩ : ∃ R, ifGood (putA s) (putB s) (srt (putQ s)) (srt (putQ s)) = R := ⟨_, rfl⟩
  obtain ⟨ok, hK⟩ : ∃ ok, dc (Good (putA s) (putB s) (srt (putQ s))) = ok := ⟨_, rfl⟩
  unfold RetWord RetMake
  rw [hP, hV, hR, hK] at hm ⊢
  have HM := Lib.hid hm
  have HP := Lib.hid hp
  clear hm hp hP hV hR hK
  generalize putA s = X at *
  generalize putB s = Y at *
  generalize putQ s = Q at *
  generalize dc (WordG (wcs s)) = okw at *
  go_enter Try.func39, Try.ntmps39
  go_wp2_with fail
  rw [← hW1]
  refine HP.out.mono ?_
  rintro e w2 ⟨A, c, rfl, ho, hb1⟩
  obtain ⟨W3, hW3⟩ : ∃ W3, W3 = w2.alloc (.cells #[.int .i64 X, .int .i64 Y, .slice A Q.length c] 29) := ⟨_, rfl⟩
  have b3 : Below w2.heap.size w2 W3 := by rw [hW3]; exact (Below.refl _ _).alloc (Nat.le_refl _) _
  have hb3 := hb1.trans (b3.mono hb1.size)
  have ho3 := own_keep ho b3
  have hs3 := hb3.size
  go_wp2_with fail
  rw [← hW3]
  refine (HM.out A Q.length c W3 rfl (by omega) (own_none ho3) (sqs_of_own ho3)).mono ?_
  rintro e w4 ⟨A2, c2, rfl, ho2, hb4⟩
  have hb := hb3.trans (hb4.mono hb3.size)
  have ho2 := own_base ho2 hs3
  clear hW1 hW3 ho ho3 hb1 b3 hb3 hb4 HM HP
  have t0 := (hb.frozen (p := ⟨w.heap.size, 0, none⟩) hz1).trans (qf 0)
  have t1 := (hb.frozen (p := ⟨w.heap.size, 1, none⟩) hz1).trans (qf 1)
  have t2 := (hb.frozen (p := ⟨w.heap.size, 2, none⟩) hz1).trans (qf 2)
  obtain ⟨_, r0, r1, r2⟩ := id (q1.next hb)
  have hB2 := hB1.trans (hb.mono hB1.size)
  have hlo : w.heap.size < W1.heap.size := hz1
  clear q1 qf hb
  go_wp2_with fail
  have hB := ((hB2.setCell (p := ⟨w.heap.size, 0, none⟩) (Nat.le_refl _) (.int .i64 P)).setCell (p := ⟨w.heap.size, 1, none⟩) (Nat.le_refl _) (.int .i64 V)).setCell (p := ⟨w.heap.size, 2, none⟩) (Nat.le_refl _) (.slice A2 R.length c2)
  have RR := ownsRow_setCell_below (ownsRow_setCell_below (ownsRow_setCell_below ho2 (a := ⟨w.heap.size, 0, none⟩) hlo (.int .i64 P)) (a := ⟨w.heap.size, 1, none⟩) hlo (.int .i64 V)) (a := ⟨w.heap.size, 2, none⟩) hlo (.slice A2 R.length c2)
  refine bodyPost_ret (v := .tuple #[.agg #[.int .i64 P, .int .i64 V, .slice A2 R.length c2], .bool ok]) (by simp [results, Try.results39, go_sem, r0, r1, r2]) rfl ?_
  exact RetCut.mk rfl (own_base RR (Nat.le_of_lt hlo)) hB

set_option maxRecDepth 100000 in
set_option maxHeartbeats 4000000 in
theorem specCutW_any (s : ByteArray) (w : World) (hs : s.size ≤ 1048576) : Calls Try.prog 38 #[.string s] w (RetWord w s) := by
  obtain ⟨W1, hW1⟩ : ∃ W1, W1 = w.alloc (.cells #[.int .i64 0, .int .i64 0, .slice none 0 0] 29) := ⟨_, rfl⟩
  have q1 : Bx w.heap.size W1 0 0 none 0 0 := by rw [hW1]; exact Bx.start _ _ _ _ _ _ _
  have qf : ∀ o, W1.frozen? ⟨w.heap.size, o, none⟩ = false := by intro o; rw [hW1]; exact World.frozen?_alloc_at _ _ _ _ rfl
  have hB1 : Below w.heap.size w W1 := by rw [hW1]; exact (Below.refl _ _).alloc (Nat.le_refl _) _
  have hz1 := q1.lt
  have hw := raWord_any s W1 hs
  by_cases h : WordG (wcs s)
  · rw [dc_true h] at hw
    have hr := raRatio_any s W1 h
    have hsq := raSquares_any s W1 h
    rw [← (put_yes h).1, ← (put_yes h).2.1] at hr
    rw [← (put_yes h).2.2] at hsq
    have hm := fun A n c w hl hn hL => cuMake_any (putA s) (putB s) A n c (putQ s) w hl hn hL
    unfold RetMake at hm
    have hQ21 := putQ_len s
    obtain ⟨P, hP⟩ : ∃ P, cutX (putA s) (putB s) (srt (putQ s)) (putA s) = P := ⟨_, rfl⟩
    obtain ⟨V, hV⟩ : ∃ V, cutX (putA s) (putB s) (srt (putQ s)) (putB s) = V := ⟨_, rfl⟩
    obtain ⟨R, hR⟩ : ∃ R, ifGood (putA s) (putB s) (srt (putQ s)) (srt (putQ s)) = R := ⟨_, rfl⟩
    obtain ⟨ok, hK⟩ : ∃ ok, dc (Good (putA s) (putB s) (srt (putQ s))) = ok := ⟨_, rfl⟩
    unfold RetWord RetMake
    rw [hP, hV, hR, hK] at hm ⊢
    have HM := Lib.hid hm
    have HS := Lib.hid hsq
    have HR := Lib.hid hr
    clear hm hsq hr hP hV hR hK
    generalize putA s = X at *
    generalize putB s = Y at *
    generalize putQ s = Q at *
    go_enter Try.func38, Try.ntmps38
    go_wp2_with fail
    rw [← hW1]
    clear hW1
    refine hw.mono ?_
    rintro e w' ⟨rfl, rfl⟩
    go_wp2_with fail
    refine HR.out.mono ?_
    rintro e w' ⟨rfl, rfl⟩
    go_wp2_with fail
    refine HS.out.mono ?_
    rintro e w3 ⟨A, n, c, rfl, rfl, ho, hb1⟩
    have hs3 := hb1.size
    go_wp2_with fail
    refine (HM.out A Q.length c w3 rfl (by omega) (sqs_of_own ho)).mono ?_
    rintro e w4 ⟨A2, c2, rfl, ho2, hb4⟩
    have hb := hb1.trans (hb4.mono hb1.size)
    have ho2 := own_base ho2 hs3
    clear ho hb1 hb4 HM HS HR hw
    have t0 := (hb.frozen (p := ⟨w.heap.size, 0, none⟩) hz1).trans (qf 0)
    have t1 := (hb.frozen (p := ⟨w.heap.size, 1, none⟩) hz1).trans (qf 1)
    have t2 := (hb.frozen (p := ⟨w.heap.size, 2, none⟩) hz1).trans (qf 2)
    obtain ⟨_, r0, r1, r2⟩ := id (q1.next hb)
    have hB2 := hB1.trans (hb.mono hB1.size)
    have hlo : w.heap.size < W1.heap.size := hz1
    clear q1 qf hb
    go_wp2_with fail
    have hB := ((hB2.setCell (p := ⟨w.heap.size, 0, none⟩) (Nat.le_refl _) (.int .i64 P)).setCell (p := ⟨w.heap.size, 1, none⟩) (Nat.le_refl _) (.int .i64 V)).setCell (p := ⟨w.heap.size, 2, none⟩) (Nat.le_refl _) (.slice A2 R.length c2)
    have RR := ownsRow_setCell_below (ownsRow_setCell_below (ownsRow_setCell_below ho2 (a := ⟨w.heap.size, 0, none⟩) hlo (.int .i64 P)) (a := ⟨w.heap.size, 1, none⟩) hlo (.int .i64 V)) (a := ⟨w.heap.size, 2, none⟩) hlo (.slice A2 R.length c2)
    refine bodyPost_ret (v := .tuple #[.agg #[.int .i64 P, .int .i64 V, .slice A2 R.length c2], .bool ok]) (by simp [results, Try.results38, go_sem, r0, r1, r2]) rfl ?_
    exact RetCut.mk rfl (own_base RR (Nat.le_of_lt hlo)) hB
  · have hno : ¬ Good (putA s) (putB s) (srt (putQ s)) := fun hg => by
      have h1 := hg.1.1
      rw [(put_no h).1] at h1
      omega
    rw [dc_false h] at hw
    have HN := Lib.hid hno
    clear hno
    go_enter Try.func38, Try.ntmps38
    go_wp2_with fail
    rw [← hW1]
    refine hw.mono ?_
    rintro e w' ⟨rfl, rfl⟩
    obtain ⟨_, r0, r1, r2⟩ := id q1
    have t0 := qf 0
    have t1 := qf 1
    have t2 := qf 2
    clear hW1 qf q1 hw
    go_wp2_with fail
    refine bodyPost_ret (v := .tuple #[.agg #[.int .i64 0, .int .i64 0, .slice none 0 0], .bool false]) (by simp [results, Try.results38, go_sem, r0, r1, r2]) rfl ?_
    exact RetMake.no HN.out (((hB1.setCell (p := ⟨w.heap.size, 0, none⟩) (Nat.le_refl _) _).setCell (p := ⟨w.heap.size, 1, none⟩) (Nat.le_refl _) _).setCell (p := ⟨w.heap.size, 2, none⟩) (Nat.le_refl _) _)
end Go.Proofs.Ytlfikjjdhmaemaa
