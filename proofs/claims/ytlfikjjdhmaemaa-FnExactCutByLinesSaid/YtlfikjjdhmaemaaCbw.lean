/- CutByLines: the program's and the model's. -/
import Derived.Test.YtlfikjjdhmaemaaCblS
import Derived.Test.YtlfikjjdhmaemaaLawFewL
set_option linter.all false
namespace Go.Proofs.Ytlfikjjdhmaemaa
open Go.RowKit

noncomputable def cblX (W H : Int) : Int := if inB W 1 60 && inB H 1 60 then W else 0
noncomputable def cblY (W H : Int) : Int := if inB W 1 60 && inB H 1 60 then H else 0
noncomputable def cblQ (W H : Int) : List Sq := if inB W 1 60 && inB H 1 60 then sqN (W.toNat + H.toNat) 0 0 W.toNat H.toNat else []
theorem cblX_yes {W H : Int} (h : (inB W 1 60 && inB H 1 60) = true) : cblX W H = W := by unfold cblX; rw [h]; rfl
theorem cblY_yes {W H : Int} (h : (inB W 1 60 && inB H 1 60) = true) : cblY W H = H := by unfold cblY; rw [h]; rfl
theorem cblQ_yes {m n : Nat} (h : (inB (m : Int) 1 60 && inB (n : Int) 1 60) = true) : cblQ m n = sqN (m + n) 0 0 m n := by unfold cblQ; rw [h, if_pos rfl, Int.toNat_natCast, Int.toNat_natCast]
theorem cblX_no {W H : Int} (h : (inB W 1 60 && inB H 1 60) = false) : cblX W H = 0 := by unfold cblX; rw [h]; rfl
theorem cblQ_no {W H : Int} (h : (inB W 1 60 && inB H 1 60) = false) : cblQ W H = [] := by unfold cblQ; rw [h]; rfl
theorem cblQ_len (W H : Int) : (cblQ W H).length ≤ 1048576 := by
  cases hok : inB W 1 60 && inB H 1 60 with
  | false => rw [cblQ_no hok]; decide
  | true =>
    have h2 : (1 ≤ W ∧ W ≤ 60) ∧ 1 ≤ H ∧ H ≤ 60 := by simpa [inB] using hok
    obtain ⟨m, rfl⟩ := Int.eq_ofNat_of_zero_le (show 0 ≤ W by omega)
    obtain ⟨n, rfl⟩ := Int.eq_ofNat_of_zero_le (show 0 ≤ H by omega)
    rw [cblQ_yes hok]
    have ql := (sqN_bnd (m + n) 0 0 m n (by omega) (by omega)).1
    have ql2 := Nat.mul_le_mul (show m ≤ 60 by omega) (show n ≤ 60 by omega)
    omega
def RetCbl (w : World) (W H : Int) (e : Ending) (w' : World) : Prop := RetMake w (cblX W H) (cblY W H) (cblQ W H) e w'
theorem cbl_no {W H : Int} (h : (inB W 1 60 && inB H 1 60) = false) : ¬ Good (cblX W H) (cblY W H) (srt (cblQ W H)) := fun hg => by
  have h1 := hg.1.1
  rw [cblX_no h] at h1
  omega
set_option maxRecDepth 100000 in
set_option maxHeartbeats 4000000 in
theorem implCbl_any (W H : Int) (w : World) : Calls Try.prog 50 #[.int .i64 W, .int .i64 H] w (RetCbl w W H) := by
  obtain ⟨W1, hW1⟩ : ∃ W1, W1 = w.alloc (.cells #[.int .i64 0, .int .i64 0, .slice none 0 0] 29) := ⟨_, rfl⟩
  have q1 : Bx w.heap.size W1 0 0 none 0 0 := by rw [hW1]; exact Bx.start _ _ _ _ _ _ _
  have qf : ∀ o, W1.frozen? ⟨w.heap.size, o, none⟩ = false := by intro o; rw [hW1]; exact World.frozen?_alloc_at _ _ _ _ rfl
  have hB1 : Below w.heap.size w W1 := by rw [hW1]; exact (Below.refl _ _).alloc (Nat.le_refl _) _
  have hz1 := q1.lt
  have ha := areUpTo_any 60 W H W1
  cases hok : inB W 1 60 && inB H 1 60 with
  | true =>
    have h2 : (1 ≤ W ∧ W ≤ 60) ∧ 1 ≤ H ∧ H ≤ 60 := by simpa [inB] using hok
    obtain ⟨m, rfl⟩ := Int.eq_ofNat_of_zero_le (show 0 ≤ W by omega)
    obtain ⟨n, rfl⟩ := Int.eq_ofNat_of_zero_le (show 0 ≤ H by omega)
    unfold RetCbl
    rw [cblX_yes hok, cblY_yes hok, cblQ_yes hok]
    rw [hok] at ha
    obtain ⟨ql, qb⟩ := sqN_bnd (m + n) 0 0 m n (by omega) (by omega)
    have ql2 := Nat.mul_le_mul (show m ≤ 60 by omega) (show n ≤ 60 by omega)
    have qwf : ∀ s ∈ sqN (m + n) 0 0 m n, wfS s := fun s hs => by
      have := qb s hs
      unfold wfS wfI
      omega
    have hm := fun A k c w hl hn hA hL => implCutOf_any (m : Int) (n : Int) A k c (sqN (m + n) 0 0 m n) w hl hn hA hL qwf
    unfold RetMake at hm
    obtain ⟨P, hP⟩ : ∃ P, cutX (m : Int) (n : Int) (srt (sqN (m + n) 0 0 m n)) (m : Int) = P := ⟨_, rfl⟩
    obtain ⟨V, hV⟩ : ∃ V, cutX (m : Int) (n : Int) (srt (sqN (m + n) 0 0 m n)) (n : Int) = V := ⟨_, rfl⟩
    obtain ⟨R, hR⟩ : ∃ R, ifGood (m : Int) (n : Int) (srt (sqN (m + n) 0 0 m n)) (srt (sqN (m + n) 0 0 m n)) = R := ⟨_, rfl⟩
    obtain ⟨ok, hK⟩ : ∃ ok, dc (Good (m : Int) (n : Int) (srt (sqN (m + n) 0 0 m n))) = ok := ⟨_, rfl⟩
    unfold RetMake
    rw [hP, hV, hR, hK] at hm ⊢
    have HM := Lib.hid hm
    obtain ⟨QQ, hQQ⟩ : ∃ QQ, sqN (m + n) 0 0 m n = QQ := ⟨_, rfl⟩
    have hsq := fun b T w2 (hT : LinAt w2 b T) (hD : ∀ x y, 1 ≤ x → x ≤ m → 1 ≤ y → y ≤ n → T x y = best x y) => squares_any b T m n (by omega) (by omega) hD (m + n) 0 0 m n w2 hT (Nat.le_refl _) (by omega) (Nat.le_refl _) (by omega) (Nat.le_refl _) (by omega) (by omega)
    rw [hQQ] at HM hsq ql
    have HS := Lib.hid hsq
    clear hm hsq hP hV hR hK hok qb qwf hQQ
    go_enter Try.func50, Try.ntmps50
    go_wp2_with fail
    rw [← hW1]
    clear hW1
    refine ha.mono ?_
    rintro e w' ⟨rfl, rfl⟩
    go_wp2_with fail
    refine (countLined_any m n _ (by omega) (by omega)).mono ?_
    rintro e w2 ⟨rfl, hb2, T, hT, hD⟩
    have h1 := HS.out _ T w2 hT (fun x y a b c d => hD x y a b c d)
    have hs2 := hb2.size
    have H1 := Lib.hid h1
    clear h1 hT hD HS
    go_wp2_with fail
    refine H1.out.mono ?_
    rintro e w3 ⟨A, k, c, rfl, rfl, ho, hb3⟩
    have hs3 := hb3.size
    have hn := own_none ho
    have hq := sqs_of_own ho
    clear H1 ho
    go_wp2_with fail
    refine (HM.out A QQ.length c w3 rfl (by omega) hn hq).mono ?_
    rintro e w4 ⟨A2, c2, rfl, ho2, hb4⟩
    have hb := (hb2.trans (hb3.mono hs2)).trans (hb4.mono (by omega))
    have ho2 := own_base ho2 (show W1.heap.size ≤ w3.heap.size by omega)
    clear hb2 hb3 hb4 HM hn hq
    have t0 := (hb.frozen (p := ⟨w.heap.size, 0, none⟩) hz1).trans (qf 0)
    have t1 := (hb.frozen (p := ⟨w.heap.size, 1, none⟩) hz1).trans (qf 1)
    have t2 := (hb.frozen (p := ⟨w.heap.size, 2, none⟩) hz1).trans (qf 2)
    obtain ⟨_, r0, r1, r2⟩ := id (q1.next hb)
    have hB2 := hB1.trans (hb.mono hB1.size)
    clear q1 qf hb
    go_wp2_with fail
    have hB := ((hB2.setCell (p := ⟨w.heap.size, 0, none⟩) (Nat.le_refl _) (.int .i64 P)).setCell (p := ⟨w.heap.size, 1, none⟩) (Nat.le_refl _) (.int .i64 V)).setCell (p := ⟨w.heap.size, 2, none⟩) (Nat.le_refl _) (.slice A2 R.length c2)
    have RR := ownsRow_setCell_below (ownsRow_setCell_below (ownsRow_setCell_below ho2 (a := ⟨w.heap.size, 0, none⟩) hz1 (.int .i64 P)) (a := ⟨w.heap.size, 1, none⟩) hz1 (.int .i64 V)) (a := ⟨w.heap.size, 2, none⟩) hz1 (.slice A2 R.length c2)
    refine bodyPost_ret (v := .tuple #[.agg #[.int .i64 P, .int .i64 V, .slice A2 R.length c2], .bool ok]) (by simp [results, Try.results50, go_sem, r0, r1, r2]) rfl ?_
    exact RetCut.mk rfl (own_base RR (Nat.le_of_lt hz1)) hB
  | false =>
    have HN := Lib.hid (cbl_no hok)
    rw [hok] at ha
    unfold RetCbl
    clear hok
    go_enter Try.func50, Try.ntmps50
    go_wp2_with fail
    rw [← hW1]
    refine ha.mono ?_
    rintro e w' ⟨rfl, rfl⟩
    obtain ⟨_, r0, r1, r2⟩ := id q1
    have t0 := qf 0
    have t1 := qf 1
    have t2 := qf 2
    clear hW1 qf q1
    go_wp2_with fail
    refine bodyPost_ret (v := .tuple #[.agg #[.int .i64 0, .int .i64 0, .slice none 0 0], .bool false]) (by simp [results, Try.results50, go_sem, r0, r1, r2]) rfl ?_
    exact RetMake.no HN.out (((hB1.setCell (p := ⟨w.heap.size, 0, none⟩) (Nat.le_refl _) _).setCell (p := ⟨w.heap.size, 1, none⟩) (Nat.le_refl _) _).setCell (p := ⟨w.heap.size, 2, none⟩) (Nat.le_refl _) _)

set_option maxRecDepth 100000 in
set_option maxHeartbeats 8000000 in
theorem specCbl_any (W H : Int) (w : World) : Calls Try.prog 49 #[.int .i64 W, .int .i64 H] w (RetCbl w W H) := by
  obtain ⟨W1, hW1⟩ : ∃ W1, W1 = w.alloc (.cells #[.int .i64 0, .int .i64 0, .slice none 0 0] 29) := ⟨_, rfl⟩
  have q1 : Bx w.heap.size W1 0 0 none 0 0 := by rw [hW1]; exact Bx.start _ _ _ _ _ _ _
  have qf : ∀ o, W1.frozen? ⟨w.heap.size, o, none⟩ = false := by intro o; rw [hW1]; exact World.frozen?_alloc_at _ _ _ _ rfl
  have hB1 : Below w.heap.size w W1 := by rw [hW1]; exact (Below.refl _ _).alloc (Nat.le_refl _) _
  have hz1 := q1.lt
  have ha := feSize_any W H 60 W1
  cases hok : inB W 1 60 && inB H 1 60 with
  | true =>
    have h2 : (1 ≤ W ∧ W ≤ 60) ∧ 1 ≤ H ∧ H ≤ 60 := by simpa [inB] using hok
    obtain ⟨m, rfl⟩ := Int.eq_ofNat_of_zero_le (show 0 ≤ W by omega)
    obtain ⟨n, rfl⟩ := Int.eq_ofNat_of_zero_le (show 0 ≤ H by omega)
    unfold RetCbl
    rw [cblX_yes hok, cblY_yes hok, cblQ_yes hok]
    rw [hok] at ha
    obtain ⟨ql, qb⟩ := sqN_bnd (m + n) 0 0 m n (by omega) (by omega)
    have ql2 := Nat.mul_le_mul (show m ≤ 60 by omega) (show n ≤ 60 by omega)
    have qwf : ∀ s ∈ sqN (m + n) 0 0 m n, wfS s := fun s hs => by
      have := qb s hs
      unfold wfS wfI
      omega
    have hm := fun A k c w hl hn hL => cuMake_any (m : Int) (n : Int) A k c (sqN (m + n) 0 0 m n) w hl hn hL
    unfold RetMake at hm
    obtain ⟨P, hP⟩ : ∃ P, cutX (m : Int) (n : Int) (srt (sqN (m + n) 0 0 m n)) (m : Int) = P := ⟨_, rfl⟩
    obtain ⟨V, hV⟩ : ∃ V, cutX (m : Int) (n : Int) (srt (sqN (m + n) 0 0 m n)) (n : Int) = V := ⟨_, rfl⟩
    obtain ⟨R, hR⟩ : ∃ R, ifGood (m : Int) (n : Int) (srt (sqN (m + n) 0 0 m n)) (srt (sqN (m + n) 0 0 m n)) = R := ⟨_, rfl⟩
    obtain ⟨ok, hK⟩ : ∃ ok, dc (Good (m : Int) (n : Int) (srt (sqN (m + n) 0 0 m n))) = ok := ⟨_, rfl⟩
    unfold RetMake
    rw [hP, hV, hR, hK] at hm ⊢
    have HM := Lib.hid hm
    obtain ⟨QQ, hQQ⟩ : ∃ QQ, sqN (m + n) 0 0 m n = QQ := ⟨_, rfl⟩
    have hpa := fun (o g : Nat) (rb : Nat → Nat) (wT : World) (hv : TV wT o g m n rb) (h0 : OM o wT wT none 0 []) => part_any o g m n rb wT (by omega) (by omega) hv (m + n) 0 0 m n wT none 0 [] h0 (by simp; omega) (Nat.le_refl _) (by omega) (Nat.le_refl _) (by omega) (Nat.le_refl _) (by omega) (by omega)
    rw [hQQ] at HM hpa ql
    have HPA := Lib.hid hpa
    obtain ⟨W2, hW2⟩ : ∃ W2, W2 = W1.alloc (.cells #[.slice none 0 0] 27) := ⟨_, rfl⟩
    have s2 : W2.heap.size = W1.heap.size + 1 := by rw [hW2]; simp
    have b2 : Below W1.heap.size W1 W2 := by rw [hW2]; exact (Below.refl _ _).alloc (Nat.le_refl _) _
    have d2 : W2.cell? ⟨W1.heap.size, 0, none⟩ = some (.slice none 0 0) := by rw [hW2]; simp
    have f2 : W2.frozen? ⟨W1.heap.size, 0, none⟩ = false := by rw [hW2]; exact World.frozen?_alloc_at _ _ _ _ rfl
    clear hm hpa hP hV hR hK hok qb qwf hQQ
    go_enter Try.func49, Try.ntmps49
    go_wp2_with fail
    rw [← hW1]
    clear hW1
    refine ha.mono ?_
    rintro e w' ⟨rfl, rfl⟩
    go_wp2_with fail
    rw [← hW2]
    clear hW2
    refine (feLines_any m n _ (by omega) (by omega) (by omega) (by omega)).mono ?_
    rintro e wT ⟨g, rb, rfl, hT⟩
    have hbT := hT.below
    have hsT := hbT.size
    have hv : TV wT W1.heap.size g m n rb := ⟨⟨hT.gl.2, by have := hT.gl.1; omega⟩, fun x a b => ⟨(hT.rl x (by omega)).2, by have := (hT.rl x (by omega)).1; have := hT.gl.1; omega⟩, fun x a b => hT.rows x (by omega), fun x y a b c d => (hT.val (x := x) (y := y) (by omega) d ⟨a, by omega, c, d⟩).2.1⟩
    have h0 : OM W1.heap.size wT wT none 0 [] := ⟨KO.refl _ _, by omega, (hbT.cell (p := ⟨W1.heap.size, 0, none⟩) (by simp only; omega)).trans d2, (hbT.frozen (p := ⟨W1.heap.size, 0, none⟩) (by simp only; omega)).trans f2, World.ownsRow_nil _ _ _ _⟩
    have h1 := HPA.out _ g rb wT hv h0
    have H1 := Lib.hid h1
    clear h1 hv h0 hT HPA d2 f2
    go_wp2_with fail
    refine H1.out.mono ?_
    rintro e w3 ⟨rfl, A, c, hO⟩
    rw [List.nil_append] at hO
    have hko := hO.ko
    have dO := hO.cell
    have hown := hO.own
    have hb13 : Below W1.heap.size W1 w3 := by
      have k1 := b2.trans (hbT.mono (by omega))
      exact ⟨hko.os.trans k1.os, hko.tape.trans k1.tape, hko.output.trans k1.output, Nat.le_trans k1.size hko.size, fun k hk => (hko.block k (by omega) (by omega)).trans (k1.block k hk)⟩
    have hs3 := hb13.size
    have hq := sqs_of_own hown
    clear H1 hO hown hko
    go_wp2_with fail
    refine (HM.out A QQ.length c w3 rfl (by omega) hq).mono ?_
    rintro e w4 ⟨A2, c2, rfl, ho2, hb4⟩
    have hb := hb13.trans (hb4.mono (by omega))
    have ho2 := own_base ho2 (show W1.heap.size ≤ w3.heap.size by omega)
    clear hb13 hb4 HM hq dO b2 hbT
    have t0 := (hb.frozen (p := ⟨w.heap.size, 0, none⟩) hz1).trans (qf 0)
    have t1 := (hb.frozen (p := ⟨w.heap.size, 1, none⟩) hz1).trans (qf 1)
    have t2 := (hb.frozen (p := ⟨w.heap.size, 2, none⟩) hz1).trans (qf 2)
    obtain ⟨_, r0, r1, r2⟩ := id (q1.next hb)
    have hB2 := hB1.trans (hb.mono hB1.size)
    clear q1 qf hb
    go_wp2_with fail
    have hB := ((hB2.setCell (p := ⟨w.heap.size, 0, none⟩) (Nat.le_refl _) (.int .i64 P)).setCell (p := ⟨w.heap.size, 1, none⟩) (Nat.le_refl _) (.int .i64 V)).setCell (p := ⟨w.heap.size, 2, none⟩) (Nat.le_refl _) (.slice A2 R.length c2)
    have RR := ownsRow_setCell_below (ownsRow_setCell_below (ownsRow_setCell_below ho2 (a := ⟨w.heap.size, 0, none⟩) hz1 (.int .i64 P)) (a := ⟨w.heap.size, 1, none⟩) hz1 (.int .i64 V)) (a := ⟨w.heap.size, 2, none⟩) hz1 (.slice A2 R.length c2)
    refine bodyPost_ret (v := .tuple #[.agg #[.int .i64 P, .int .i64 V, .slice A2 R.length c2], .bool ok]) (by simp [results, Try.results49, go_sem, r0, r1, r2]) rfl ?_
    exact RetCut.mk rfl (own_base RR (Nat.le_of_lt hz1)) hB
  | false =>
    have HN := Lib.hid (cbl_no hok)
    rw [hok] at ha
    unfold RetCbl
    clear hok
    go_enter Try.func49, Try.ntmps49
    go_wp2_with fail
    rw [← hW1]
    refine ha.mono ?_
    rintro e w' ⟨rfl, rfl⟩
    obtain ⟨_, r0, r1, r2⟩ := id q1
    have t0 := qf 0
    have t1 := qf 1
    have t2 := qf 2
    clear hW1 qf q1
    go_wp2_with fail
    refine bodyPost_ret (v := .tuple #[.agg #[.int .i64 0, .int .i64 0, .slice none 0 0], .bool false]) (by simp [results, Try.results49, go_sem, r0, r1, r2]) rfl ?_
    exact RetMake.no HN.out (((hB1.setCell (p := ⟨w.heap.size, 0, none⟩) (Nat.le_refl _) _).setCell (p := ⟨w.heap.size, 1, none⟩) (Nat.le_refl _) _).setCell (p := ⟨w.heap.size, 2, none⟩) (Nat.le_refl _) _)
end Go.Proofs.Ytlfikjjdhmaemaa
