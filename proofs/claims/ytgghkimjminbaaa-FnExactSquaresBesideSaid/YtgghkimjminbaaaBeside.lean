/- Contracts of SquaresBeside, the program's and the model's. -/
import Derived.Test.YtgghkimjminbaaaSides
set_option linter.all false
namespace Go.Proofs.Ytgghkimjminbaaa
open Go.RowKit

def mnI (a b : Int) : Int := if a < b then a else b
def mxI (a b : Int) : Int := if a > b then a else b
theorem l1Least_any (a b : Int) (w : World) : Calls Try.prog 95 #[.int .i64 a, .int .i64 b] w fun e w' => e = .returned (.int .i64 (mnI a b)) ∧ w = w' := by
  by_cases h : a < b
  · go_enter Try.func95, Try.ntmps95
    go_wp2
    go_ret
    exact ⟨ret_int (by simp [mnI, h]), rfl⟩
  · go_enter Try.func95, Try.ntmps95
    go_wp2
    go_ret
    exact ⟨ret_int (by simp only [mnI]; split <;> omega), rfl⟩
theorem l1Most_any (a b : Int) (w : World) : Calls Try.prog 69 #[.int .i64 a, .int .i64 b] w fun e w' => e = .returned (.int .i64 (mxI a b)) ∧ w = w' := by
  by_cases h : b < a
  · go_enter Try.func69, Try.ntmps69
    go_wp2
    go_ret
    exact ⟨ret_int (by simp [mxI, h]), rfl⟩
  · go_enter Try.func69, Try.ntmps69
    go_wp2
    go_ret
    exact ⟨ret_int (by simp only [mxI]; split <;> omega), rfl⟩

def Bes (s q : Sq) : Prop := (lapX s.x s.d q.x q.d = 0 ∧ 0 < lapX s.y s.d q.y q.d) ∨ (lapX s.y s.d q.y q.d = 0 ∧ 0 < lapX s.x s.d q.x q.d)

set_option maxHeartbeats 1000000 in
theorem cuBeside_any (s q : Sq) (hs : Fine s) (hq : Fine q) (w : World) :
    Calls Try.prog 78 #[.agg #[.int .i64 s.x, .int .i64 s.y, .int .i64 s.d], .agg #[.int .i64 q.x, .int .i64 q.y, .int .i64 q.d]] w (RetB w (Bes s q)) := by
  obtain ⟨a0, a1, a2, a3, a4, a5⟩ := hs
  obtain ⟨b0, b1, b2, b3, b4, b5⟩ := hq
  obtain ⟨W1, hW1⟩ : ∃ W1, W1 = (w.alloc (.cells #[.int .i64 s.x, .int .i64 s.y, .int .i64 s.d] 39)).alloc (.cells #[.int .i64 q.x, .int .i64 q.y, .int .i64 q.d] 39) := ⟨_, rfl⟩
  have hB1 : Below w.heap.size w W1 := by rw [hW1]; exact ((Below.refl _ _).alloc (Nat.le_refl _) _).alloc (by simp) _
  have hz1 : w.heap.size + 2 ≤ W1.heap.size := by rw [hW1]; simp
  have S0 : W1.cell? ⟨w.heap.size, 0, none⟩ = some (.int .i64 s.x) := by rw [hW1]; simp
  have S1 : W1.cell? ⟨w.heap.size, 1, none⟩ = some (.int .i64 s.y) := by rw [hW1]; simp
  have S2 : W1.cell? ⟨w.heap.size, 2, none⟩ = some (.int .i64 s.d) := by rw [hW1]; simp
  have Q0 : W1.cell? ⟨w.heap.size + 1, 0, none⟩ = some (.int .i64 q.x) := by rw [hW1]; simp
  have Q1 : W1.cell? ⟨w.heap.size + 1, 1, none⟩ = some (.int .i64 q.y) := by rw [hW1]; simp
  have Q2 : W1.cell? ⟨w.heap.size + 1, 2, none⟩ = some (.int .i64 q.d) := by rw [hW1]; simp
  have C : ∀ b o v, b < w.heap.size + 2 → W1.cell? ⟨b, o, none⟩ = some v → ∀ u : Later (w.heap.size + 2) W1, u.val.cell? ⟨b, o, none⟩ = some v := fun b o v hb h u => (u.ok.cell (p := ⟨b, o, none⟩) hb).trans h
  have S0' := C _ _ _ (by omega) S0
  have S1' := C _ _ _ (by omega) S1
  have S2' := C _ _ _ (by omega) S2
  have Q0' := C _ _ _ (by omega) Q0
  have Q1' := C _ _ _ (by omega) Q1
  have Q2' := C _ _ _ (by omega) Q2
  have e1 : IntKind.i64.wrap (s.x + s.d) = s.x + s.d := IntWalk.i64_in _ (by omega)
  have e2 : IntKind.i64.wrap (q.x + q.d) = q.x + q.d := IntWalk.i64_in _ (by omega)
  have e3 : IntKind.i64.wrap (s.y + s.d) = s.y + s.d := IntWalk.i64_in _ (by omega)
  have e4 : IntKind.i64.wrap (q.y + q.d) = q.y + q.d := IntWalk.i64_in _ (by omega)
  have l1 : mnI (s.x + s.d) (q.x + q.d) - mxI s.x q.x = lapX s.x s.d q.x q.d := by unfold mnI mxI lapX; split <;> split <;> omega
  have l2 : mnI (s.y + s.d) (q.y + q.d) - mxI s.y q.y = lapX s.y s.d q.y q.d := by unfold mnI mxI lapX; split <;> split <;> omega
  have l3 : IntKind.i64.wrap (lapX s.x s.d q.x q.d) = lapX s.x s.d q.x q.d := IntWalk.i64_in _ (by unfold lapX; omega)
  have l4 : IntKind.i64.wrap (lapX s.y s.d q.y q.d) = lapX s.y s.d q.y q.d := IntWalk.i64_in _ (by unfold lapX; omega)
  clear C S0 S1 S2 Q0 Q1 Q2
  go_enter Try.func78, Try.ntmps78
  go_wp2_with fail
  rw [← hW1]
  clear hW1
  refine wp_region_sub (w.heap.size + 2) (by kernel_rfl) (by kernel_rfl) ?_
  repeat (first | go_big_quiet_step ((first | (go_at_call 95; exact sub_same _ (l1Least_any _ _ _)) | (go_at_call 69; exact sub_same _ (l1Most_any _ _ _)))) | quiet_step ((first | (go_at_call 95; exact sub_same _ (l1Least_any _ _ _)) | (go_at_call 69; exact sub_same _ (l1Most_any _ _ _)))))
  refine wpQuiet_nil ?_
  rintro w2 ⟨u2, hu2⟩
  have hb2 := u2.ok
  rw [← hu2] at hb2
  clear hu2 u2
  have T0 := fun u : Later (w.heap.size + 2) w2 => S0' ⟨u.val, hb2.trans u.ok⟩
  have T1 := fun u : Later (w.heap.size + 2) w2 => S1' ⟨u.val, hb2.trans u.ok⟩
  have T2 := fun u : Later (w.heap.size + 2) w2 => S2' ⟨u.val, hb2.trans u.ok⟩
  have U0 := fun u : Later (w.heap.size + 2) w2 => Q0' ⟨u.val, hb2.trans u.ok⟩
  have U1 := fun u : Later (w.heap.size + 2) w2 => Q1' ⟨u.val, hb2.trans u.ok⟩
  have U2 := fun u : Later (w.heap.size + 2) w2 => Q2' ⟨u.val, hb2.trans u.ok⟩
  simp only at T0 T1 T2 U0 U1 U2
  have hB2 := hB1.trans (hb2.mono (by omega : w.heap.size ≤ w.heap.size + 2))
  clear S0' S1' S2' Q0' Q1' Q2' hb2 hB1 hz1
  go_wp2_with fail
  refine wp_region_sub (w.heap.size + 2) (by kernel_rfl) (by kernel_rfl) ?_
  repeat (first | go_big_quiet_step (((first | (go_at_call 95; exact sub_same _ (l1Least_any _ _ _)) | (go_at_call 69; exact sub_same _ (l1Most_any _ _ _))))) | quiet_step (((first | (go_at_call 95; exact sub_same _ (l1Least_any _ _ _)) | (go_at_call 69; exact sub_same _ (l1Most_any _ _ _))))))
  refine wpQuiet_nil ?_
  rintro w3 ⟨u3, hu3⟩
  have hb3 := u3.ok
  rw [← hu3] at hb3
  clear hu3 u3
  have hB3 := hB2.trans (hb3.mono (by omega : w.heap.size ≤ w.heap.size + 2))
  clear T0 T1 T2 U0 U1 U2 hb3 hB2
  obtain ⟨X, hX⟩ : ∃ X, lapX s.x s.d q.x q.d = X := ⟨_, rfl⟩
  obtain ⟨Y, hY⟩ : ∃ Y, lapX s.y s.d q.y q.d = Y := ⟨_, rfl⟩
  have HB : Hid (Bes s q ↔ (X = 0 ∧ 0 < Y) ∨ (Y = 0 ∧ 0 < X)) := by show _ ↔ _; unfold Bes; rw [hX, hY]
  rw [hX, hY]
  clear hX hY e1 e2 e3 e4 l1 l2 l3 l4
  by_cases x0 : X = 0
  · have x1 : (X == 0) = true := by simpa using x0
    have x2 : ¬ 0 < X := by omega
    clear x0
    by_cases y0 : 0 < Y
    · have y1 : (Y == 0) = false := by simp; omega
      go_wp2_with fail
      go_ret
      exact RetB.mk (by rw [HB.out]; simp at x1; simp; omega) hB3
    · by_cases y2 : Y = 0
      · have y1 : (Y == 0) = true := by simpa using y2
        clear y2
        go_wp2_with fail
        go_ret
        exact RetB.mk (by rw [HB.out]; simp at x1; simp; omega) hB3
      · have y1 : (Y == 0) = false := by simpa using y2
        go_wp2_with fail
        go_ret
        exact RetB.mk (by rw [HB.out]; simp at x1; simp; omega) hB3
  · have x1 : (X == 0) = false := by simpa using x0
    by_cases y2 : Y = 0
    · have y1 : (Y == 0) = true := by simpa using y2
      clear y2
      by_cases x2 : 0 < X
      · go_wp2_with fail
        go_ret
        exact RetB.mk (by rw [HB.out]; simp at y1; simp; omega) hB3
      · go_wp2_with fail
        go_ret
        exact RetB.mk (by rw [HB.out]; simp at y1; simp; omega) hB3
    · have y1 : (Y == 0) = false := by simpa using y2
      go_wp2_with fail
      go_ret
      exact RetB.mk (by rw [HB.out]; simp; omega) hB3
/-- The squares beside q among the first m. -/
noncomputable def besU (q : Sq) (L : List Sq) : Nat → List Int
  | 0 => []
  | m + 1 => besU q L m ++ (match L[m]? with | some s => if dc (Bes s q) then [(m : Int)] else [] | none => [])
theorem besU_yes {q s : Sq} {L : List Sq} {m : Nat} (h : L[m]? = some s) (hb : Bes s q) : besU q L (m + 1) = besU q L m ++ [(m : Int)] := by simp [besU, h, dc_true hb]
theorem besU_no {q s : Sq} {L : List Sq} {m : Nat} (h : L[m]? = some s) (hb : ¬ Bes s q) : besU q L (m + 1) = besU q L m := by simp [besU, h, dc_false hb]
theorem besU_len (q : Sq) (L : List Sq) (m : Nat) : (besU q L m).length ≤ m := by
  induction m with
  | zero => simp [besU]
  | succ m ih =>
    simp only [besU, List.length_append]
    split
    · split <;> simp <;> omega
    · simp; omega
def BesIn (W H : Int) (L : List Sq) (kk : Int) : Prop := Good W H L ∧ 0 ≤ kk ∧ kk < L.length
noncomputable def besR (W H : Int) (L : List Sq) (kk : Int) : List Int := if dc (BesIn W H L kk) then besU (L.getD kk.toNat ⟨0, 0, 0⟩) L L.length else []
theorem besR_yes {W H : Int} {L : List Sq} {K : Nat} {q : Sq} (h : BesIn W H L K) (hq : L[K]? = some q) : besR W H L K = besU q L L.length := by
  simp [besR, dc_true h, hq]
theorem besR_no {W H : Int} {L : List Sq} {kk : Int} (h : ¬ BesIn W H L kk) : besR W H L kk = [] := by simp [besR, dc_false h]
theorem besR_len (W H : Int) (L : List Sq) (kk : Int) : (besR W H L kk).length ≤ L.length := by
  unfold besR; split
  · exact besU_len _ _ _
  · simp

set_option maxRecDepth 100000 in
set_option maxHeartbeats 2000000 in
theorem specBes_in (W H : Int) (A : Option Addr) (n c : Nat) (L : List Sq) (K : Nat) (w : World) (hl : L.length = n) (hc : n ≤ c) (hL : SqsAt w w.heap.size A L) (hin : BesIn W H L K) :
    Calls Try.prog 38 #[.agg #[.int .i64 W, .int .i64 H, .slice A n c], .int .i64 K] w (RetInts w (besR W H L K) true) := by
  subst hl
  obtain ⟨i0, hi, hz0, hz1, hz2⟩ := info_parts infoInt
  have hb0 : ∀ o : Obj, Below w.heap.size w (w.alloc o) := fun o => (Below.refl _ _).alloc (Nat.le_refl _) o
  have Z0 : Box w.heap.size w (w.alloc (.cells #[.int .i64 W, .int .i64 H, .slice A L.length c] 24)) W H A c L := Box.start hL
  have hG := hin.1
  have hKn : K < L.length := by have := hin.2.2; omega
  obtain ⟨q, hq⟩ : ∃ q, L[K]? = some q := ⟨_, List.getElem?_eq_getElem hKn⟩
  have HR := Lib.hid (besR_yes hin hq)
  rw [HR.out]
  have HQ := Lib.hid hq
  have hfq := (hG.2.2.2.1 K q hq).1.fine hG.1.2 hG.2.1.2
  have hg30 := hG.2.2.1.2
  have dk : Hid (inB (K : Int) 0 ((L.length : Int) - 1) = true) := inB_iff.2 (by omega)
  have k0 : (0 : Int) ≤ (K : Int) := by omega
  have k1 : (K : Int) < (L.length : Int) := by omega
  have kd : decide ((K : Int) < 0) = false := by rw [decide_eq_false_iff_not]; omega
  have kd2 : decide (L.length ≤ K) = false := by rw [decide_eq_false_iff_not]; omega
  clear hq hin HR
  go_enter Try.func38, Try.ntmps38
  go_wp2_with fail
  refine (callB_yes (cuGood_any W H A _ c L _ rfl hc ((hL.below (hb0 _)).mono (hb0 _).size)) hG).mono ?_
  rintro e w1 ⟨rfl, hb1⟩
  have Z1 := Z0.next hb1
  obtain ⟨hB1, hz1', b0, b1, b2, hL1⟩ := id Z1
  clear Z0 hb1 hb0
  go_wp2_with fail
  refine (l1In_any _ _ _ _).mono ?_
  rw [dk.out]
  rintro e w' ⟨rfl, rfl⟩
  go_wp2_with fail
  clear b0 b1 b2 hL1
  go_loopw [6, 24] (fun v i wr => ∃ m : Nat, m ≤ L.length ∧ i = .int .i64 m ∧ Box w.heap.size w wr W H A c L ∧ ∃ z, z = (besU q L m).length ∧ z ≤ 30 ∧ wr.ownsRow (w.heap.size + 1) 3 1 v z (ints (besU q L m))) (fun _ i _ => L.length - (intOf i).toNat)
  case atStart => exact ⟨0, Nat.zero_le _, rfl, Z1, 0, rfl, by omega, World.ownsRow_nil _ _ _ _⟩
  case round =>
    obtain ⟨m, hm, rfl, Zr, z, hzl, hz30, hown⟩ := hrel
    obtain ⟨hbr, hzr, b0, b1, b2, hLr⟩ := id Zr
    have HZ := Lib.hid hzl
    clear hzl
    by_cases hlt : m < L.length
    · obtain ⟨s, hs⟩ : ∃ s, L[m]? = some s := ⟨_, List.getElem?_eq_getElem hlt⟩
      have hfs := (hG.2.2.2.1 m s hs).1.fine hG.1.2 hG.2.1.2
      obtain ⟨b, off, rfl, hb, c0, c1, c2⟩ := hLr m s hs
      obtain ⟨b', off', he, hb', d0, d1, d2⟩ := hLr K q HQ.out
      simp only [Option.some.injEq, Addr.mk.injEq] at he
      obtain ⟨rfl, rfl, _⟩ := he
      have HS := Lib.hid hs
      obtain ⟨A6, c6, rfl⟩ := own_val hown
      have hvk := fun k hk => (hown.lt k hk).2
      clear hs hLr hL Z1
      go_wp2_with fail
      obtain ⟨W1, hW1⟩ : ∃ W1, W1 = wr.alloc (.cells #[.int .i64 s.x, .int .i64 s.y, .int .i64 s.d] 39) := ⟨_, rfl⟩
      have hsz : wr.heap.size + 1 ≤ W1.heap.size := by rw [hW1]; simp
      have hB2 : Below wr.heap.size wr W1 := by rw [hW1]; exact (Below.refl _ _).alloc (Nat.le_refl _) _
      have S0 : W1.cell? ⟨wr.heap.size, 0, none⟩ = some (.int .i64 s.x) := by rw [hW1]; simp
      have S1 : W1.cell? ⟨wr.heap.size, 1, none⟩ = some (.int .i64 s.y) := by rw [hW1]; simp
      have S2 : W1.cell? ⟨wr.heap.size, 2, none⟩ = some (.int .i64 s.d) := by rw [hW1]; simp
      have hown1 := own_keep hown hB2
      have Zw := Zr.next hB2
      rw [← hW1]
      clear hW1 c0 c1 c2 hown
      have C : ∀ b o v, b < wr.heap.size + 1 → W1.cell? ⟨b, o, none⟩ = some v → ∀ u : Later (wr.heap.size + 1) W1, u.val.cell? ⟨b, o, none⟩ = some v := fun b o v hb h u => (u.ok.cell (p := ⟨b, o, none⟩) hb).trans h
      have E2 := C _ _ _ (by omega) ((hB2.cell (p := ⟨w.heap.size, 2, none⟩) hzr).trans b2)
      have T0 := C _ _ _ (by omega) S0
      have T1 := C _ _ _ (by omega) S1
      have T2 := C _ _ _ (by omega) S2
      have U0 := C _ _ _ (by omega) ((hB2.cell (p := ⟨b, off + K * 3, none⟩) (Nat.lt_trans hb' hzr)).trans d0)
      have U1 := C _ _ _ (by omega) ((hB2.cell (p := ⟨b, off + K * 3 + 1, none⟩) (Nat.lt_trans hb' hzr)).trans d1)
      have U2 := C _ _ _ (by omega) ((hB2.cell (p := ⟨b, off + K * 3 + 2, none⟩) (Nat.lt_trans hb' hzr)).trans d2)
      clear C S0 S1 S2 d0 d1 d2 b0 b1 b2
      have hgo : ∀ w2, Below (wr.heap.size + 1) W1 w2 → Box w.heap.size w w2 W H (some ⟨b, off, none⟩) c L ∧ w2.ownsRow (w.heap.size + 1) 3 1 (.slice A6 z c6) z (ints (besU q L m)) := fun w2 h =>
        ⟨Zw.keep h (by omega) h.size, own_below hown1 h (fun k hk => Nat.lt_succ_of_lt (hvk k hk))⟩
      have HGo := Lib.hid hgo
      clear hgo hvk hown1 Zw
      by_cases hbs : Bes s q
      · refine wp_region_sub (wr.heap.size + 1) (by kernel_rfl) (by kernel_rfl) ?_
        repeat (first | go_big_quiet_step ((go_at_call 78; exact sub_of _ hsz (callB_yes (cuBeside_any s q hfs hfq _) hbs))) | quiet_step ((go_at_call 78; exact sub_of _ hsz (callB_yes (cuBeside_any s q hfs hfq _) hbs))))
        refine wpQuiet_nil ?_
        rintro w2 ⟨uu, hu⟩; have hb2 := uu.ok; rw [← hu] at hb2; clear hu uu
        obtain ⟨Z2, ho2⟩ := HGo.out w2 hb2
        obtain ⟨hB2', hz2', b0, b1, b2, _⟩ := id Z2
        clear T0 T1 T2 U0 U1 U2 E2 hsz hB2 HGo hb2
        go_wp2_with (at_builtin; refine wpList_append_own _ rfl _ _ 26 rfl (w.heap.size + 1) 3 i0 (.int .i64 0) 1 8 Try.underlying26 hi hz0 hz1 hz2 rfl (by decide) _ _ _ rfl (ho2.alloc _) ⟨w2.heap.size, 0, none⟩ 1 1 [.int .i64 m] rfl rfl ?c1 ?c2 ?c3 ?c4 ?c5 ?_)
        case c1 =>
          intro j u hj
          match j, hj with
          | 0, hj => simp at hj; subst hj; simp [Addr.add]
        case c2 => intro u hu; simp at hu; subst hu; rfl
        case c3 => unfold maxLen; omega
        case c4 => omega
        case c5 => simp <;> omega
        intro v' w3 hown3 hgrow _
        have Z3 : Box w.heap.size w w3 W H (some ⟨b, off, none⟩) c L :=
          (Z2.next ((Below.refl _ _).alloc (Nat.le_refl _) _)).keep (below_of_grown hgrow (by simp <;> omega) (fun k hk => (ho2.lt k hk).1)) (Nat.lt_succ_self _) hgrow.size
        have e9 := besU_yes HS.out hbs
        have hle := besU_len q L (m + 1)
        have HO : Hid ((besU q L (m + 1)).length = z + 1 ∧ w3.ownsRow (w.heap.size + 1) 3 1 v' (z + 1) (ints (besU q L (m + 1)))) := by
          show _ ∧ _
          rw [e9]
          exact ⟨by rw [List.length_append, ← HZ.out]; rfl, by rw [ints_app]; exact hown3⟩
        have hz31 : z + 1 ≤ 30 := by have := HO.out.1; omega
        clear hown3 hgrow e9 hle b0 b1 b2
        go_wp2_with fail
        go_roundw
        case rel => first | exact ⟨m + 1, by omega, by go_num, Z3, z + 1, HO.out.1.symm, hz31, HO.out.2⟩ | ((repeat apply Exists.intro); (refine ⟨?_, rfl⟩); exact ⟨m + 1, by omega, by go_num, Z3, z + 1, HO.out.1.symm, hz31, HO.out.2⟩)
        case measure => simp [intOf]; omega
      · refine wp_region_sub (wr.heap.size + 1) (by kernel_rfl) (by kernel_rfl) ?_
        repeat (first | go_big_quiet_step ((go_at_call 78; exact sub_of _ hsz (callB_no (cuBeside_any s q hfs hfq _) hbs))) | quiet_step ((go_at_call 78; exact sub_of _ hsz (callB_no (cuBeside_any s q hfs hfq _) hbs))))
        refine wpQuiet_nil ?_
        rintro w2 ⟨uu, hu⟩; have hb2 := uu.ok; rw [← hu] at hb2; clear hu uu
        obtain ⟨Z2, ho2⟩ := HGo.out w2 hb2
        have e9 := besU_no HS.out hbs
        have HO : Hid ((besU q L (m + 1)).length = z ∧ w2.ownsRow (w.heap.size + 1) 3 1 (.slice A6 z c6) z (ints (besU q L (m + 1)))) := by
          show _ ∧ _
          rw [e9]
          exact ⟨HZ.out.symm, ho2⟩
        clear T0 T1 T2 U0 U1 U2 E2 hsz hB2 HGo hb2 ho2 e9
        go_wp2_with fail
        go_roundw
        case rel => first | exact ⟨m + 1, by omega, by go_num, Z2, z, HO.out.1.symm, hz30, HO.out.2⟩ | ((repeat apply Exists.intro); (refine ⟨?_, rfl⟩); exact ⟨m + 1, by omega, by go_num, Z2, z, HO.out.1.symm, hz30, HO.out.2⟩)
        case measure => simp [intOf]; omega
    · obtain rfl : m = L.length := by omega
      obtain ⟨A6, c6, rfl⟩ := own_val hown
      go_wp2_with fail
      go_ret2
      exact RetInts.mk HZ.out (own_base hown (Nat.le_succ _)) hbr

set_option maxRecDepth 100000 in
set_option maxHeartbeats 2000000 in
theorem implBes_in (W H : Int) (A : Option Addr) (n c : Nat) (L : List Sq) (K : Nat) (w : World) (hl : L.length = n) (hc : n ≤ c) (hL : SqsAt w w.heap.size A L) (hwf : ∀ s ∈ L, wfS s) (hin : BesIn W H L K) :
    Calls Try.prog 30 #[.agg #[.int .i64 W, .int .i64 H, .slice A n c], .int .i64 K] w (RetInts w (besR W H L K) true) := by
  subst hl
  obtain ⟨i0, hi, hz0, hz1, hz2⟩ := info_parts infoInt
  have hb0 : ∀ o : Obj, Below w.heap.size w (w.alloc o) := fun o => (Below.refl _ _).alloc (Nat.le_refl _) o
  have Z0 : Box w.heap.size w (w.alloc (.cells #[.int .i64 W, .int .i64 H, .slice A L.length c] 24)) W H A c L := Box.start hL
  have hG := hin.1
  have hKn : K < L.length := by have := hin.2.2; omega
  obtain ⟨q, hq⟩ : ∃ q, L[K]? = some q := ⟨_, List.getElem?_eq_getElem hKn⟩
  have HR := Lib.hid (besR_yes hin hq)
  rw [HR.out]
  have HQ := Lib.hid hq
  have hfq := (hG.2.2.2.1 K q hq).1.fine hG.1.2 hG.2.1.2
  have hg30 := hG.2.2.1.2
  have dk : Hid (inB (K : Int) 0 ((L.length : Int) - 1) = true) := inB_iff.2 (by omega)
  have k0 : (0 : Int) ≤ (K : Int) := by omega
  have k1 : (K : Int) < (L.length : Int) := by omega
  have kd : decide ((K : Int) < 0) = false := by rw [decide_eq_false_iff_not]; omega
  have kd2 : decide (L.length ≤ K) = false := by rw [decide_eq_false_iff_not]; omega
  clear hq hin HR
  go_enter Try.func30, Try.ntmps30
  go_wp2_with fail
  refine (callB_yes (isCut_good W H A _ c L _ rfl hc ((hL.below (hb0 _)).mono (hb0 _).size) hwf) hG).mono ?_
  rintro e w1 ⟨rfl, hb1⟩
  have Z1 := Z0.next hb1
  obtain ⟨hB1, hz1', b0, b1, b2, hL1⟩ := id Z1
  clear Z0 hb1 hb0
  go_wp2_with fail
  clear b0 b1 b2 hL1
  go_loopw [6, 28] (fun v i wr => ∃ m : Nat, m ≤ L.length ∧ i = .int .i64 m ∧ Box w.heap.size w wr W H A c L ∧ ∃ z, z = (besU q L m).length ∧ z ≤ 30 ∧ wr.ownsRow (w.heap.size + 1) 3 1 v z (ints (besU q L m))) (fun _ i _ => L.length - (intOf i).toNat)
  case atStart => exact ⟨0, Nat.zero_le _, rfl, Z1, 0, rfl, by omega, World.ownsRow_nil _ _ _ _⟩
  case round =>
    obtain ⟨m, hm, rfl, Zr, z, hzl, hz30, hown⟩ := hrel
    obtain ⟨hbr, hzr, b0, b1, b2, hLr⟩ := id Zr
    have HZ := Lib.hid hzl
    clear hzl
    by_cases hlt : m < L.length
    · obtain ⟨s, hs⟩ : ∃ s, L[m]? = some s := ⟨_, List.getElem?_eq_getElem hlt⟩
      have hfs := (hG.2.2.2.1 m s hs).1.fine hG.1.2 hG.2.1.2
      obtain ⟨b, off, rfl, hb, c0, c1, c2⟩ := hLr m s hs
      obtain ⟨b', off', he, hb', d0, d1, d2⟩ := hLr K q HQ.out
      simp only [Option.some.injEq, Addr.mk.injEq] at he
      obtain ⟨rfl, rfl, _⟩ := he
      have HS := Lib.hid hs
      obtain ⟨A6, c6, rfl⟩ := own_val hown
      have hvk := fun k hk => (hown.lt k hk).2
      clear hs hLr hL Z1
      go_wp2_with fail
      obtain ⟨W1, hW1⟩ : ∃ W1, W1 = wr.alloc (.cells #[.int .i64 s.x, .int .i64 s.y, .int .i64 s.d] 39) := ⟨_, rfl⟩
      have hsz : wr.heap.size + 1 ≤ W1.heap.size := by rw [hW1]; simp
      have hB2 : Below wr.heap.size wr W1 := by rw [hW1]; exact (Below.refl _ _).alloc (Nat.le_refl _) _
      have S0 : W1.cell? ⟨wr.heap.size, 0, none⟩ = some (.int .i64 s.x) := by rw [hW1]; simp
      have S1 : W1.cell? ⟨wr.heap.size, 1, none⟩ = some (.int .i64 s.y) := by rw [hW1]; simp
      have S2 : W1.cell? ⟨wr.heap.size, 2, none⟩ = some (.int .i64 s.d) := by rw [hW1]; simp
      have hown1 := own_keep hown hB2
      have Zw := Zr.next hB2
      rw [← hW1]
      clear hW1 c0 c1 c2 hown
      have C : ∀ b o v, b < wr.heap.size + 1 → W1.cell? ⟨b, o, none⟩ = some v → ∀ u : Later (wr.heap.size + 1) W1, u.val.cell? ⟨b, o, none⟩ = some v := fun b o v hb h u => (u.ok.cell (p := ⟨b, o, none⟩) hb).trans h
      have E2 := C _ _ _ (by omega) ((hB2.cell (p := ⟨w.heap.size, 2, none⟩) hzr).trans b2)
      have T0 := C _ _ _ (by omega) S0
      have T1 := C _ _ _ (by omega) S1
      have T2 := C _ _ _ (by omega) S2
      have U0 := C _ _ _ (by omega) ((hB2.cell (p := ⟨b, off + K * 3, none⟩) (Nat.lt_trans hb' hzr)).trans d0)
      have U1 := C _ _ _ (by omega) ((hB2.cell (p := ⟨b, off + K * 3 + 1, none⟩) (Nat.lt_trans hb' hzr)).trans d1)
      have U2 := C _ _ _ (by omega) ((hB2.cell (p := ⟨b, off + K * 3 + 2, none⟩) (Nat.lt_trans hb' hzr)).trans d2)
      clear C S0 S1 S2 d0 d1 d2 b0 b1 b2
      have hgo : ∀ w2, Below (wr.heap.size + 1) W1 w2 → Box w.heap.size w w2 W H (some ⟨b, off, none⟩) c L ∧ w2.ownsRow (w.heap.size + 1) 3 1 (.slice A6 z c6) z (ints (besU q L m)) := fun w2 h =>
        ⟨Zw.keep h (by omega) h.size, own_below hown1 h (fun k hk => Nat.lt_succ_of_lt (hvk k hk))⟩
      have HGo := Lib.hid hgo
      clear hgo hvk hown1 Zw
      by_cases hbs : Bes s q
      · refine wp_region_sub (wr.heap.size + 1) (by kernel_rfl) (by kernel_rfl) ?_
        repeat (first | go_big_quiet_step ((go_at_call 72; exact sub_of _ hsz (commonLengths_any s.x s.y s.d q.x q.y q.d hfs.1 hfs.2.1 hfs.2.2.1 hfs.2.2.2.1 (by have := hfs.2.2.2.2.1; omega) hfs.2.2.2.2.2 hfq.1 hfq.2.1 hfq.2.2.1 hfq.2.2.2.1 (by have := hfq.2.2.2.2.1; omega) hfq.2.2.2.2.2 _))) | quiet_step ((go_at_call 72; exact sub_of _ hsz (commonLengths_any s.x s.y s.d q.x q.y q.d hfs.1 hfs.2.1 hfs.2.2.1 hfs.2.2.2.1 (by have := hfs.2.2.2.2.1; omega) hfs.2.2.2.2.2 hfq.1 hfq.2.1 hfq.2.2.1 hfq.2.2.2.1 (by have := hfq.2.2.2.2.1; omega) hfq.2.2.2.2.2 _))))
        refine wpQuiet_nil ?_
        rintro w2 ⟨uu, hu⟩; have hb2 := uu.ok; rw [← hu] at hb2; clear hu uu
        obtain ⟨X, hX⟩ : ∃ X, lapX s.x s.d q.x q.d = X := ⟨_, rfl⟩
        obtain ⟨Y, hY⟩ : ∃ Y, lapX s.y s.d q.y q.d = Y := ⟨_, rfl⟩
        have hXY := hbs
        unfold Bes at hXY
        rw [hX, hY] at hXY ⊢
        clear hX hY
        rcases hXY with ⟨xz, yp⟩ | ⟨yz, xp⟩
        · have xb : (X == 0) = true := by simpa using xz
          have x1 : X ≤ 0 := by omega
          have x2 : 0 ≤ X := by omega
          clear xz
          obtain ⟨Z2, ho2⟩ := HGo.out w2 hb2
          obtain ⟨hB2', hz2', b0, b1, b2, _⟩ := id Z2
          clear T0 T1 T2 U0 U1 U2 E2 hsz hB2 HGo hb2
          go_wp2_with (at_builtin; refine wpList_append_own _ rfl _ _ 26 rfl (w.heap.size + 1) 3 i0 (.int .i64 0) 1 8 Try.underlying26 hi hz0 hz1 hz2 rfl (by decide) _ _ _ rfl (ho2.alloc _) ⟨w2.heap.size, 0, none⟩ 1 1 [.int .i64 m] rfl rfl ?c1 ?c2 ?c3 ?c4 ?c5 ?_)
          case c1 =>
            intro j u hj
            match j, hj with
            | 0, hj => simp at hj; subst hj; simp [Addr.add]
          case c2 => intro u hu; simp at hu; subst hu; rfl
          case c3 => unfold maxLen; omega
          case c4 => omega
          case c5 => simp <;> omega
          intro v' w3 hown3 hgrow _
          have Z3 : Box w.heap.size w w3 W H (some ⟨b, off, none⟩) c L :=
            (Z2.next ((Below.refl _ _).alloc (Nat.le_refl _) _)).keep (below_of_grown hgrow (by simp <;> omega) (fun k hk => (ho2.lt k hk).1)) (Nat.lt_succ_self _) hgrow.size
          have e9 := besU_yes HS.out hbs
          have hle := besU_len q L (m + 1)
          have HO : Hid ((besU q L (m + 1)).length = z + 1 ∧ w3.ownsRow (w.heap.size + 1) 3 1 v' (z + 1) (ints (besU q L (m + 1)))) := by
            show _ ∧ _
            rw [e9]
            exact ⟨by rw [List.length_append, ← HZ.out]; rfl, by rw [ints_app]; exact hown3⟩
          have hz31 : z + 1 ≤ 30 := by have := HO.out.1; omega
          clear hown3 hgrow e9 hle b0 b1 b2
          go_wp2_with fail
          go_roundw
          case rel => first | exact ⟨m + 1, by omega, by go_num, Z3, z + 1, HO.out.1.symm, hz31, HO.out.2⟩ | ((repeat apply Exists.intro); (refine ⟨?_, rfl⟩); exact ⟨m + 1, by omega, by go_num, Z3, z + 1, HO.out.1.symm, hz31, HO.out.2⟩)
          case measure => simp [intOf]; omega
        · have yb : (Y == 0) = true := by simpa using yz
          have y1 : Y ≤ 0 := by omega
          have y2 : 0 ≤ Y := by omega
          clear yz
          obtain ⟨Z2, ho2⟩ := HGo.out w2 hb2
          obtain ⟨hB2', hz2', b0, b1, b2, _⟩ := id Z2
          clear T0 T1 T2 U0 U1 U2 E2 hsz hB2 HGo hb2
          go_wp2_with (at_builtin; refine wpList_append_own _ rfl _ _ 26 rfl (w.heap.size + 1) 3 i0 (.int .i64 0) 1 8 Try.underlying26 hi hz0 hz1 hz2 rfl (by decide) _ _ _ rfl (ho2.alloc _) ⟨w2.heap.size, 0, none⟩ 1 1 [.int .i64 m] rfl rfl ?c1 ?c2 ?c3 ?c4 ?c5 ?_)
          case c1 =>
            intro j u hj
            match j, hj with
            | 0, hj => simp at hj; subst hj; simp [Addr.add]
          case c2 => intro u hu; simp at hu; subst hu; rfl
          case c3 => unfold maxLen; omega
          case c4 => omega
          case c5 => simp <;> omega
          intro v' w3 hown3 hgrow _
          have Z3 : Box w.heap.size w w3 W H (some ⟨b, off, none⟩) c L :=
            (Z2.next ((Below.refl _ _).alloc (Nat.le_refl _) _)).keep (below_of_grown hgrow (by simp <;> omega) (fun k hk => (ho2.lt k hk).1)) (Nat.lt_succ_self _) hgrow.size
          have e9 := besU_yes HS.out hbs
          have hle := besU_len q L (m + 1)
          have HO : Hid ((besU q L (m + 1)).length = z + 1 ∧ w3.ownsRow (w.heap.size + 1) 3 1 v' (z + 1) (ints (besU q L (m + 1)))) := by
            show _ ∧ _
            rw [e9]
            exact ⟨by rw [List.length_append, ← HZ.out]; rfl, by rw [ints_app]; exact hown3⟩
          have hz31 : z + 1 ≤ 30 := by have := HO.out.1; omega
          clear hown3 hgrow e9 hle b0 b1 b2
          go_wp2_with fail
          go_roundw
          case rel => first | exact ⟨m + 1, by omega, by go_num, Z3, z + 1, HO.out.1.symm, hz31, HO.out.2⟩ | ((repeat apply Exists.intro); (refine ⟨?_, rfl⟩); exact ⟨m + 1, by omega, by go_num, Z3, z + 1, HO.out.1.symm, hz31, HO.out.2⟩)
          case measure => simp [intOf]; omega
      · refine wp_region_sub (wr.heap.size + 1) (by kernel_rfl) (by kernel_rfl) ?_
        repeat (first | go_big_quiet_step ((go_at_call 72; exact sub_of _ hsz (commonLengths_any s.x s.y s.d q.x q.y q.d hfs.1 hfs.2.1 hfs.2.2.1 hfs.2.2.2.1 (by have := hfs.2.2.2.2.1; omega) hfs.2.2.2.2.2 hfq.1 hfq.2.1 hfq.2.2.1 hfq.2.2.2.1 (by have := hfq.2.2.2.2.1; omega) hfq.2.2.2.2.2 _))) | quiet_step ((go_at_call 72; exact sub_of _ hsz (commonLengths_any s.x s.y s.d q.x q.y q.d hfs.1 hfs.2.1 hfs.2.2.1 hfs.2.2.2.1 (by have := hfs.2.2.2.2.1; omega) hfs.2.2.2.2.2 hfq.1 hfq.2.1 hfq.2.2.1 hfq.2.2.2.1 (by have := hfq.2.2.2.2.1; omega) hfq.2.2.2.2.2 _))))
        refine wpQuiet_nil ?_
        rintro w2 ⟨uu, hu⟩; have hb2 := uu.ok; rw [← hu] at hb2; clear hu uu
        obtain ⟨X, hX⟩ : ∃ X, lapX s.x s.d q.x q.d = X := ⟨_, rfl⟩
        obtain ⟨Y, hY⟩ : ∃ Y, lapX s.y s.d q.y q.d = Y := ⟨_, rfl⟩
        have hXY := hbs
        unfold Bes at hXY
        rw [hX, hY] at hXY ⊢
        clear hX hY
        have hcs : (X ≤ Y ∧ X ≠ 0) ∨ (X = 0 ∧ Y = 0) ∨ (Y < X ∧ Y ≠ 0) := by omega
        clear hXY
        rcases hcs with ⟨h5, h6⟩ | ⟨h5, h6⟩ | ⟨h5, h6⟩
        · have xb : (X == 0) = false := by simpa using h6
          obtain ⟨Z2, ho2⟩ := HGo.out w2 hb2
          have e9 := besU_no HS.out hbs
          have HO : Hid ((besU q L (m + 1)).length = z ∧ w2.ownsRow (w.heap.size + 1) 3 1 (.slice A6 z c6) z (ints (besU q L (m + 1)))) := by
            show _ ∧ _
            rw [e9]
            exact ⟨HZ.out.symm, ho2⟩
          clear T0 T1 T2 U0 U1 U2 E2 hsz hB2 HGo hb2 ho2 e9
          go_wp2_with fail
          go_roundw
          case rel => first | exact ⟨m + 1, by omega, by go_num, Z2, z, HO.out.1.symm, hz30, HO.out.2⟩ | ((repeat apply Exists.intro); (refine ⟨?_, rfl⟩); exact ⟨m + 1, by omega, by go_num, Z2, z, HO.out.1.symm, hz30, HO.out.2⟩)
          case measure => simp [intOf]; omega
        · have xb : (X == 0) = true := by simpa using h5
          have yb : (Y == 0) = true := by simpa using h6
          have x1 : X ≤ 0 := by omega
          have x2 : 0 ≤ X := by omega
          have y1 : Y ≤ 0 := by omega
          have y2 : 0 ≤ Y := by omega
          clear h5 h6
          obtain ⟨Z2, ho2⟩ := HGo.out w2 hb2
          have e9 := besU_no HS.out hbs
          have HO : Hid ((besU q L (m + 1)).length = z ∧ w2.ownsRow (w.heap.size + 1) 3 1 (.slice A6 z c6) z (ints (besU q L (m + 1)))) := by
            show _ ∧ _
            rw [e9]
            exact ⟨HZ.out.symm, ho2⟩
          clear T0 T1 T2 U0 U1 U2 E2 hsz hB2 HGo hb2 ho2 e9
          go_wp2_with fail
          go_roundw
          case rel => first | exact ⟨m + 1, by omega, by go_num, Z2, z, HO.out.1.symm, hz30, HO.out.2⟩ | ((repeat apply Exists.intro); (refine ⟨?_, rfl⟩); exact ⟨m + 1, by omega, by go_num, Z2, z, HO.out.1.symm, hz30, HO.out.2⟩)
          case measure => simp [intOf]; omega
        · have yb : (Y == 0) = false := by simpa using h6
          obtain ⟨Z2, ho2⟩ := HGo.out w2 hb2
          have e9 := besU_no HS.out hbs
          have HO : Hid ((besU q L (m + 1)).length = z ∧ w2.ownsRow (w.heap.size + 1) 3 1 (.slice A6 z c6) z (ints (besU q L (m + 1)))) := by
            show _ ∧ _
            rw [e9]
            exact ⟨HZ.out.symm, ho2⟩
          clear T0 T1 T2 U0 U1 U2 E2 hsz hB2 HGo hb2 ho2 e9
          go_wp2_with fail
          go_roundw
          case rel => first | exact ⟨m + 1, by omega, by go_num, Z2, z, HO.out.1.symm, hz30, HO.out.2⟩ | ((repeat apply Exists.intro); (refine ⟨?_, rfl⟩); exact ⟨m + 1, by omega, by go_num, Z2, z, HO.out.1.symm, hz30, HO.out.2⟩)
          case measure => simp [intOf]; omega
    · obtain rfl : m = L.length := by omega
      obtain ⟨A6, c6, rfl⟩ := own_val hown
      go_wp2_with fail
      go_ret2
      exact RetInts.mk HZ.out (own_base hown (Nat.le_succ _)) hbr

theorem specBes_any (W H : Int) (A : Option Addr) (n c : Nat) (L : List Sq) (kk : Int) (w : World) (hl : L.length = n) (hc : n ≤ c) (hL : SqsAt w w.heap.size A L) :
    Calls Try.prog 38 #[.agg #[.int .i64 W, .int .i64 H, .slice A n c], .int .i64 kk] w (RetInts w (besR W H L kk) (dc (BesIn W H L kk))) := by
  by_cases hin : BesIn W H L kk
  · obtain ⟨K, rfl⟩ := Int.eq_ofNat_of_zero_le hin.2.1
    rw [dc_true hin]
    exact specBes_in W H A n c L K w hl hc hL hin
  · rw [dc_false hin, besR_no hin]
    subst hl
    have hb0 : ∀ o : Obj, Below w.heap.size w (w.alloc o) := fun o => (Below.refl _ _).alloc (Nat.le_refl _) o
    have Z0 : Box w.heap.size w (w.alloc (.cells #[.int .i64 W, .int .i64 H, .slice A L.length c] 24)) W H A c L := Box.start hL
    by_cases hG : Good W H L
    · have dk : Hid (inB kk 0 ((L.length : Int) - 1) = false) := by
        have h : ¬ (0 ≤ kk ∧ kk < L.length) := fun h => hin ⟨hG, h⟩
        show inB _ _ _ = false; simp [inB]; omega
      have hg30 := hG.2.2.1.2
      clear hin
      go_enter Try.func38, Try.ntmps38
      go_wp2_with fail
      refine (callB_yes (cuGood_any W H A _ c L _ rfl hc ((hL.below (hb0 _)).mono (hb0 _).size)) hG).mono ?_
      rintro e w1 ⟨rfl, hb1⟩
      obtain ⟨hB1, hz1, b0, b1, b2, hL1⟩ := Z0.next hb1
      clear Z0 hb1
      go_wp2_with fail
      refine (l1In_any _ _ _ _).mono ?_
      rw [dk.out]
      rintro e w' ⟨rfl, rfl⟩
      go_wp2_with fail
      go_ret2
      exact RetInts.none_ hB1
    · go_enter Try.func38, Try.ntmps38
      go_wp2_with fail
      refine (callB_no (cuGood_any W H A _ c L _ rfl hc ((hL.below (hb0 _)).mono (hb0 _).size)) hG).mono ?_
      rintro e w1 ⟨rfl, hb1⟩
      go_wp2_with fail
      go_ret2
      exact RetInts.none_ ((hb0 _).trans (hb1.mono (hb0 _).size))

theorem implBes_any (W H : Int) (A : Option Addr) (n c : Nat) (L : List Sq) (kk : Int) (w : World) (hl : L.length = n) (hc : n ≤ c) (hL : SqsAt w w.heap.size A L) (hwf : ∀ s ∈ L, wfS s) :
    Calls Try.prog 30 #[.agg #[.int .i64 W, .int .i64 H, .slice A n c], .int .i64 kk] w (RetInts w (besR W H L kk) (dc (BesIn W H L kk))) := by
  by_cases hin : BesIn W H L kk
  · obtain ⟨K, rfl⟩ := Int.eq_ofNat_of_zero_le hin.2.1
    rw [dc_true hin]
    exact implBes_in W H A n c L K w hl hc hL hwf hin
  · rw [dc_false hin, besR_no hin]
    subst hl
    have hb0 : ∀ o : Obj, Below w.heap.size w (w.alloc o) := fun o => (Below.refl _ _).alloc (Nat.le_refl _) o
    have Z0 : Box w.heap.size w (w.alloc (.cells #[.int .i64 W, .int .i64 H, .slice A L.length c] 24)) W H A c L := Box.start hL
    by_cases hG : Good W H L
    · have hk : kk < 0 ∨ (¬ kk < 0 ∧ (L.length : Int) ≤ kk) := by
        have h : ¬ (0 ≤ kk ∧ kk < L.length) := fun h => hin ⟨hG, h⟩
        omega
      clear hin
      rcases hk with hk | ⟨hk, hk2⟩
      all_goals
        go_enter Try.func30, Try.ntmps30
        go_wp2_with fail
        refine (callB_yes (isCut_good W H A _ c L _ rfl hc ((hL.below (hb0 _)).mono (hb0 _).size) hwf) hG).mono ?_
        rintro e w1 ⟨rfl, hb1⟩
        obtain ⟨hB1, hz1, b0, b1, b2, hL1⟩ := Z0.next hb1
        clear Z0 hb1
        go_wp2_with fail
        go_ret2
        exact RetInts.none_ hB1
    · go_enter Try.func30, Try.ntmps30
      go_wp2_with fail
      refine (callB_no (isCut_good W H A _ c L _ rfl hc ((hL.below (hb0 _)).mono (hb0 _).size) hwf) hG).mono ?_
      rintro e w1 ⟨rfl, hb1⟩
      go_wp2_with fail
      go_ret2
      exact RetInts.none_ ((hb0 _).trans (hb1.mono (hb0 _).size))

end Go.Proofs.Ytgghkimjminbaaa
