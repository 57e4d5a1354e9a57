/- Cuts by lines: their squares: plain facts; the program's. -/
import Derived.Test.YtlfikjjdhmaemaaLineC
import Derived.Test.YtlfikjjdhmaemaaApp
import Derived.Test.YtlfikjjdhmaemaaCutW
set_option linter.all false
namespace Go.Proofs.Ytlfikjjdhmaemaa
open Go.RowKit

theorem arg_spec (m : Int) (f : Nat → Int) : ∀ k, (lo m f k < m → 1 ≤ arg m f k ∧ f (arg m f k) = lo m f k) ∧ (lo m f k = m → arg m f k = 0) ∧ ∀ x, 1 ≤ x → x ≤ k → x < arg m f k → lo m f k < f x := by
  intro k
  induction k with
  | zero => exact ⟨fun h => absurd h (Int.lt_irrefl _), fun _ => rfl, fun x a b => by omega⟩
  | succ k ih =>
    by_cases h : f (k + 1) < lo m f k
    · obtain ⟨e1, e2⟩ := lo_lt h
      have hm := lo_le m f k
      rw [e1, e2]
      exact ⟨fun _ => ⟨by omega, rfl⟩, fun h' => by omega, fun x a b c => by
        have := lo_le_at m f k x a (by omega)
        omega⟩
    · obtain ⟨e1, e2⟩ := lo_ge' h
      rw [e1, e2]
      have hl := arg_le m f k
      exact ⟨ih.1, ih.2.1, fun x a b c => ih.2.2 x a (by omega) c⟩
theorem bDown_ge {w h : Nat} (hw : 1 ≤ w) (hh : 1 ≤ h) (hne : w ≠ h) : best w h ≤ bDown w h := by rw [best_two hw hh hne]; exact lo_le _ _ _
theorem down_case {w h a : Nat} (hw : 1 ≤ w) (hh : 1 ≤ h) (hne : w ≠ h) (h1 : 1 ≤ a) (h2 : a ≤ w / 2) (he : dn w h a = best w h) (hmin : ∀ x, 1 ≤ x → x < a → dn w h x ≠ best w h) : lnDown w h = a := by
  have hA := best_area hw hh
  have b1 : bDown w h ≤ best w h := by rw [← he]; exact lo_le_at _ _ _ _ h1 h2
  have b2 := bDown_ge hw hh hne
  have b3 : bDown w h = best w h := by omega
  have hac : arg (bDown w h) (ac w h) (h / 2) = 0 := by
    refine (arg_spec _ _ _).2.1 ?_
    rw [← best_two hw hh hne, b3]
  obtain ⟨s1, _, s3⟩ := arg_spec ((w : Int) * h + 1) (dn w h) (w / 2)
  have hlo : lo ((w : Int) * h + 1) (dn w h) (w / 2) = best w h := b3
  rw [hlo] at s1 s3
  obtain ⟨t1, t2⟩ := s1 (by omega)
  unfold lnDown
  rw [if_neg hne, if_pos hac]
  have hle := arg_le ((w : Int) * h + 1) (dn w h) (w / 2)
  rcases Nat.lt_trichotomy (arg ((w : Int) * h + 1) (dn w h) (w / 2)) a with c | c | c
  · exact absurd t2 (hmin _ t1 c)
  · exact c
  · have := s3 a h1 h2 c
    omega
theorem across_case {w h : Nat} (hw : 1 ≤ w) (hh : 1 ≤ h) (hne : w ≠ h) (hno : ∀ x, 1 ≤ x → x ≤ w / 2 → dn w h x ≠ best w h) :
    lnDown w h = 0 ∧ (1 ≤ lnAcross w h ∧ lnAcross w h ≤ h / 2) ∧ ac w h (lnAcross w h) = best w h ∧ ∀ x, 1 ≤ x → x < lnAcross w h → ac w h x ≠ best w h := by
  have hA := best_area hw hh
  have b2 := bDown_ge hw hh hne
  have hlt : best w h < bDown w h := by
    rcases Int.lt_or_eq_of_le b2 with c | c
    · exact c
    · exfalso
      obtain ⟨s1, _, _⟩ := arg_spec ((w : Int) * h + 1) (dn w h) (w / 2)
      have hlo : lo ((w : Int) * h + 1) (dn w h) (w / 2) = best w h := c.symm
      rw [hlo] at s1
      obtain ⟨t1, t2⟩ := s1 (by omega)
      exact hno _ t1 (arg_le _ _ _) t2
  have hl : lnAcross w h = arg (bDown w h) (ac w h) (h / 2) := if_neg hne
  obtain ⟨s1, _, s3⟩ := arg_spec (bDown w h) (ac w h) (h / 2)
  rw [← best_two hw hh hne, ← hl] at s1 s3
  have hle : lnAcross w h ≤ h / 2 := by rw [hl]; exact arg_le _ _ _
  obtain ⟨t1, t2⟩ := s1 hlt
  refine ⟨?_, ⟨t1, hle⟩, t2, fun x a c e => ?_⟩
  · unfold lnDown
    rw [if_neg hne, if_neg (by rw [← hl]; omega)]
  · have := s3 x a (by omega) c
    omega
theorem lnDown_le (w h : Nat) : lnDown w h ≤ w / 2 := by
  unfold lnDown
  split
  · omega
  · split
    · exact arg_le _ _ _
    · omega
theorem lnAcross_le (w h : Nat) : lnAcross w h ≤ h / 2 := by
  unfold lnAcross
  split
  · omega
  · exact arg_le _ _ _
/-- The squares of the cut by lines of a rectangle at a place; the first number bounds the depth. -/
def sqN : Nat → Nat → Nat → Nat → Nat → List Sq
  | 0, _, _, _, _ => []
  | n + 1, x, y, w, h =>
    if 0 < lnDown w h then sqN n x y (lnDown w h) h ++ sqN n (x + lnDown w h) y (w - lnDown w h) h
    else if 0 < lnAcross w h then sqN n x y w (lnAcross w h) ++ sqN n x (y + lnAcross w h) w (h - lnAcross w h)
    else [⟨x, y, w⟩]
theorem sqN_down {n x y w h : Nat} (hd : 0 < lnDown w h) : sqN (n + 1) x y w h = sqN n x y (lnDown w h) h ++ sqN n (x + lnDown w h) y (w - lnDown w h) h := if_pos hd
theorem sqN_across {n x y w h : Nat} (hd : ¬ 0 < lnDown w h) (ha : 0 < lnAcross w h) : sqN (n + 1) x y w h = sqN n x y w (lnAcross w h) ++ sqN n x (y + lnAcross w h) w (h - lnAcross w h) := by
  rw [sqN, if_neg hd, if_pos ha]
theorem sqN_one {n x y w h : Nat} (hd : ¬ 0 < lnDown w h) (ha : ¬ 0 < lnAcross w h) : sqN (n + 1) x y w h = [⟨x, y, w⟩] := by
  rw [sqN, if_neg hd, if_neg ha]
theorem sqN_bnd : ∀ (n x y w h : Nat), 1 ≤ w → 1 ≤ h → (sqN n x y w h).length ≤ w * h ∧ ∀ s ∈ sqN n x y w h, (0 ≤ s.x ∧ s.x ≤ (x : Int) + w) ∧ (0 ≤ s.y ∧ s.y ≤ (y : Int) + h) ∧ 1 ≤ s.d ∧ s.d ≤ (w : Int) := by
  intro n
  induction n with
  | zero => intro x y w h _ _; exact ⟨Nat.zero_le _, fun s hs => by cases hs⟩
  | succ n ih =>
    intro x y w h hw hh
    by_cases hd : 0 < lnDown w h
    · have hl := lnDown_le w h
      rw [sqN_down hd]
      generalize lnDown w h = d at *
      obtain ⟨a1, a2⟩ := ih x y d h (by omega) hh
      obtain ⟨b1, b2⟩ := ih (x + d) y (w - d) h (by omega) hh
      refine ⟨?_, fun s hs => ?_⟩
      · have e : d * h + (w - d) * h = w * h := by rw [← Nat.add_mul]; congr 1; omega
        rw [List.length_append]; omega
      · rcases List.mem_append.1 hs with hs | hs
        · have := a2 s hs; omega
        · have := b2 s hs; omega
    · by_cases ha : 0 < lnAcross w h
      · have hl := lnAcross_le w h
        rw [sqN_across hd ha]
        generalize lnAcross w h = d at *
        obtain ⟨a1, a2⟩ := ih x y w d hw (by omega)
        obtain ⟨b1, b2⟩ := ih x (y + d) w (h - d) hw (by omega)
        refine ⟨?_, fun s hs => ?_⟩
        · have e : w * d + w * (h - d) = w * h := by rw [← Nat.mul_add]; congr 1; omega
          rw [List.length_append]; omega
        · rcases List.mem_append.1 hs with hs | hs
          · have := a2 s hs; omega
          · have := b2 s hs; omega
      · rw [sqN_one hd ha]
        have := Nat.mul_le_mul hw hh
        refine ⟨by simp; omega, fun s hs => ?_⟩
        rw [List.mem_singleton] at hs
        subst hs
        simp only
        omega

theorem src_own {w : World} {base n c : Nat} {A : Option Addr} {L : List Sq} (h : w.ownsRow base 65 3 (.slice A n c) n (flat L)) : Src w A n c (flat L) := by
  cases A with
  | none =>
    obtain ⟨rfl, rfl⟩ := own_none h rfl
    have hl := h.1
    rw [Nat.zero_mul] at hl
    exact .inl ⟨rfl, rfl, rfl, List.eq_nil_of_length_eq_zero hl⟩
  | some ad =>
    refine .inr ⟨ad, rfl, fun j u hu => ?_⟩
    have hj := (List.getElem?_eq_some_iff.1 hu).1
    have hl := h.1
    obtain ⟨g, hg⟩ := own_form h (by omega)
    cases hg
    rw [add_at, Nat.zero_add, h.cellAt j (by omega)]
    exact hu
set_option maxRecDepth 100000 in
set_option maxHeartbeats 16000000 in
theorem squares_any (b : Nat) (T : Nat → Nat → Int) (W H : Nat) (hW : W ≤ 60) (hH : H ≤ 60) (hD : ∀ x y, 1 ≤ x → x ≤ W → 1 ≤ y → y ≤ H → T x y = best x y) : ∀ (n x y w h : Nat) (w0 : World), LinAt w0 b T → w + h ≤ n → 1 ≤ w → w ≤ W → 1 ≤ h → h ≤ H → x + w ≤ 1000 → y + h ≤ 1000 →
    Calls Try.prog 94 #[.pointer (some ⟨b, 0, none⟩), .int .i64 x, .int .i64 y, .int .i64 w, .int .i64 h] w0 (RetSq w0 (sqN n x y w h)) := by
  obtain ⟨j0, hj, hz0, hz1, hz2⟩ := info_parts infoSq
  intro n
  induction n with
  | zero => intro x y w h w0 hT hn hw0 hw hh0; omega
  | succ n ih =>
    intro x y w h w0 hT hn hw0 hw hh0 hh hx hy
    have bl := bestLine_any b w h T w0 hT hw0 (by omega) hh0 (by omega) (fun a p q => hD a h p (by omega) hh0 hh) (fun a p q => hD w a hw0 hw p (by omega))
    obtain ⟨v, hv⟩ : ∃ v, best w h = v := ⟨_, rfl⟩
    rw [hv] at bl
    clear hv
    by_cases hd : 0 < lnDown w h
    · have hle := lnDown_le w h
      rw [sqN_down hd]
      obtain ⟨E, hE⟩ : ∃ E, lnAcross w h = E := ⟨_, rfl⟩
      rw [hE] at bl
      obtain ⟨D, hDD⟩ : ∃ D, lnDown w h = D := ⟨_, rfl⟩
      rw [hDD] at bl hle hd ⊢
      have BL := Lib.hid bl
      have g1 : (0 : Int) < (D : Int) := by omega
      clear bl hE hDD
      have c1 : ∀ w2, LinAt w2 b T → Calls Try.prog 94 #[.pointer (some ⟨b, 0, none⟩), .int .i64 x, .int .i64 y, .int .i64 D, .int .i64 h] w2 (RetSq w2 (sqN n x y D h)) := fun w2 h2 => ih x y D h w2 h2 (by omega) (by omega) (by omega) (by omega) (by omega) (by omega) (by omega)
      have c2 : ∀ w2, LinAt w2 b T → Calls Try.prog 94 #[.pointer (some ⟨b, 0, none⟩), .int .i64 ((x : Int) + D), .int .i64 y, .int .i64 ((w : Int) - D), .int .i64 h] w2 (RetSq w2 (sqN n (x + D) y (w - D) h)) := fun w2 h2 => by
        have k := ih (x + D) y (w - D) h w2 h2 (by omega) (by omega) (by omega) (by omega) (by omega) (by omega) (by omega)
        have e1 : ((x + D : Nat) : Int) = (x : Int) + D := by omega
        have e2 : ((w - D : Nat) : Int) = (w : Int) - D := by omega
        rw [e1, e2] at k
        exact k
      have l1 := (sqN_bnd n x y D h (by omega) (by omega)).1
      have l2 := (sqN_bnd n (x + D) y (w - D) h (by omega) (by omega)).1
      have l3 := Nat.mul_le_mul (show D ≤ 60 by omega) (show h ≤ 60 by omega)
      have l4 := Nat.mul_le_mul (show w - D ≤ 60 by omega) (show h ≤ 60 by omega)
      obtain ⟨P, hP⟩ : ∃ P, sqN n x y D h = P := ⟨_, rfl⟩
      obtain ⟨Q, hQ⟩ : ∃ Q, sqN n (x + D) y (w - D) h = Q := ⟨_, rfl⟩
      rw [hP] at l1 c1
      rw [hQ] at l2 c2
      rw [hP, hQ]
      have C1 := Lib.hid c1
      have C2 := Lib.hid c2
      have hbd1 : P.length + Q.length ≤ maxLen := by unfold maxLen; omega
      have hbd2 : (P.length + Q.length) * 24 ≤ 140737488355328 := by omega
      have wr1 : IntKind.i64.wrap ((x : Int) + D) = (x : Int) + D := IntWalk.i64_in _ (by omega)
      have wr2 : IntKind.i64.wrap ((y : Int) + D) = (y : Int) + D := IntWalk.i64_in _ (by omega)
      clear c1 c2 hP hQ l1 l2 l3 l4 ih
      go_enter Try.func94, Try.ntmps94
      go_wp2_with fail
      refine BL.out.mono ?_
      rintro e w1 ⟨rfl, hb1⟩
      have hT1 := hT.below hb1
      go_wp2_with fail
      refine (C1.out _ hT1).mono ?_
      rintro e w2 ⟨A, m, c, rfl, rfl, ho1, hb2⟩
      have hT2 := hT1.below hb2
      go_wp2_with fail
      refine (C2.out _ hT2).mono ?_
      rintro e w3 ⟨A', m', c', rfl, rfl, ho2, hb3⟩
      have ho1' := own_keep ho1 hb3
      have hs1 := hb1.size
      have hs2 := hb2.size
      have hs3 := hb3.size
      have hsrc := src_own ho2
      clear hT hT1 hT2 ho1
      go_wp2_with (at_builtin; refine app_list rfl _ _ _ rfl w1.heap.size 65 j0 (.agg #[.int .i64 0, .int .i64 0, .int .i64 0]) 3 24 Try.underlying27 hj hz0 hz1 hz2 rfl (by decide) (.slice A P.length c) P.length _ rfl ho1' A' Q.length c' (flat Q) rfl (flat_len Q) hsrc (flat_one Q) hbd1 hbd2 (by omega) ?_; intro v' w6 hown6 hgrow hv6; obtain ⟨A6, c6, rfl⟩ := own_val hown6)
      go_ret
      refine ⟨A6, _, c6, rfl, by simp, ?_, ?_⟩
      · rw [flat_app]; exact own_base hown6 hs1
      · exact ((hb1.trans (hb2.mono hs1)).trans (hb3.mono (by omega))).trans (below_of_grown hgrow (by omega) (fun k hk => by have := (ho1'.lt k hk).1; omega))
    · have hd0 : lnDown w h = 0 := by omega
      rw [hd0] at bl
      by_cases ha : 0 < lnAcross w h
      · have hle := lnAcross_le w h
        rw [sqN_across hd ha]
        obtain ⟨D, hDD⟩ : ∃ D, lnAcross w h = D := ⟨_, rfl⟩
        rw [hDD] at bl hle ha ⊢
        have BL := Lib.hid bl
        have g1 : (0 : Int) < (D : Int) := by omega
        clear bl hDD hd hd0
        have c1 : ∀ w2, LinAt w2 b T → Calls Try.prog 94 #[.pointer (some ⟨b, 0, none⟩), .int .i64 x, .int .i64 y, .int .i64 w, .int .i64 D] w2 (RetSq w2 (sqN n x y w D)) := fun w2 h2 => ih x y w D w2 h2 (by omega) (by omega) (by omega) (by omega) (by omega) (by omega) (by omega)
        have c2 : ∀ w2, LinAt w2 b T → Calls Try.prog 94 #[.pointer (some ⟨b, 0, none⟩), .int .i64 x, .int .i64 ((y : Int) + D), .int .i64 w, .int .i64 ((h : Int) - D)] w2 (RetSq w2 (sqN n x (y + D) w (h - D))) := fun w2 h2 => by
          have k := ih x (y + D) w (h - D) w2 h2 (by omega) (by omega) (by omega) (by omega) (by omega) (by omega) (by omega)
          have e1 : ((y + D : Nat) : Int) = (y : Int) + D := by omega
          have e2 : ((h - D : Nat) : Int) = (h : Int) - D := by omega
          rw [e1, e2] at k
          exact k
        have l1 := (sqN_bnd n x y w D (by omega) (by omega)).1
        have l2 := (sqN_bnd n x (y + D) w (h - D) (by omega) (by omega)).1
        have l3 := Nat.mul_le_mul (show w ≤ 60 by omega) (show D ≤ 60 by omega)
        have l4 := Nat.mul_le_mul (show w ≤ 60 by omega) (show h - D ≤ 60 by omega)
        obtain ⟨P, hP⟩ : ∃ P, sqN n x y w D = P := ⟨_, rfl⟩
        obtain ⟨Q, hQ⟩ : ∃ Q, sqN n x (y + D) w (h - D) = Q := ⟨_, rfl⟩
        rw [hP] at l1 c1
        rw [hQ] at l2 c2
        rw [hP, hQ]
        have C1 := Lib.hid c1
        have C2 := Lib.hid c2
        have hbd1 : P.length + Q.length ≤ maxLen := by unfold maxLen; omega
        have hbd2 : (P.length + Q.length) * 24 ≤ 140737488355328 := by omega
        have wr1 : IntKind.i64.wrap ((x : Int) + D) = (x : Int) + D := IntWalk.i64_in _ (by omega)
        have wr2 : IntKind.i64.wrap ((y : Int) + D) = (y : Int) + D := IntWalk.i64_in _ (by omega)
        clear c1 c2 hP hQ l1 l2 l3 l4 ih
        go_enter Try.func94, Try.ntmps94
        go_wp2_with fail
        refine BL.out.mono ?_
        rintro e w1 ⟨rfl, hb1⟩
        have hT1 := hT.below hb1
        go_wp2_with fail
        refine (C1.out _ hT1).mono ?_
        rintro e w2 ⟨A, m, c, rfl, rfl, ho1, hb2⟩
        have hT2 := hT1.below hb2
        go_wp2_with fail
        refine (C2.out _ hT2).mono ?_
        rintro e w3 ⟨A', m', c', rfl, rfl, ho2, hb3⟩
        have ho1' := own_keep ho1 hb3
        have hs1 := hb1.size
        have hs2 := hb2.size
        have hs3 := hb3.size
        have hsrc := src_own ho2
        clear hT hT1 hT2 ho1
        go_wp2_with (at_builtin; refine app_list rfl _ _ _ rfl w1.heap.size 65 j0 (.agg #[.int .i64 0, .int .i64 0, .int .i64 0]) 3 24 Try.underlying27 hj hz0 hz1 hz2 rfl (by decide) (.slice A P.length c) P.length _ rfl ho1' A' Q.length c' (flat Q) rfl (flat_len Q) hsrc (flat_one Q) hbd1 hbd2 (by omega) ?_; intro v' w6 hown6 hgrow hv6; obtain ⟨A6, c6, rfl⟩ := own_val hown6)
        go_ret
        refine ⟨A6, _, c6, rfl, by simp, ?_, ?_⟩
        · rw [flat_app]; exact own_base hown6 hs1
        · exact ((hb1.trans (hb2.mono hs1)).trans (hb3.mono (by omega))).trans (below_of_grown hgrow (by omega) (fun k hk => by have := (ho1'.lt k hk).1; omega))
      · have ha0 : lnAcross w h = 0 := by omega
        rw [ha0] at bl
        rw [sqN_one hd ha]
        have BL := Lib.hid bl
        clear bl hd hd0 ha ha0 ih
        go_enter Try.func94, Try.ntmps94
        go_wp2_with fail
        refine BL.out.mono ?_
        rintro e w1 ⟨rfl, hb1⟩
        have hs1 := hb1.size
        go_wp2_with fail
        go_ret
        refine ⟨_, 1, 1, rfl, rfl, own_base (World.ownsRow_lit w1 #[.int .i64 x, .int .i64 y, .int .i64 w] 1 (Nat.le_refl _) (by decide) rfl) hs1, hb1.alloc hs1 _⟩
end Go.Proofs.Ytlfikjjdhmaemaa
