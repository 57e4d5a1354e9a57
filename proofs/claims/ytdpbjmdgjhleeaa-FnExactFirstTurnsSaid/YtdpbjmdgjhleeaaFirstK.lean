/- FirstTurn: the program's and the model's answer. -/
import Derived.Test.YtdpbjmdgjhleeaaFirstJ
import Derived.Test.YtdpbjmdgjhleeaaSuM
set_option linter.all false
namespace Go.Proofs.Ytdpbjmdgjhleeaa
open Go.RowKit

instance : Nonempty F.Ct := ⟨⟨0, 0, []⟩⟩
/-- The first one. -/
noncomputable def F.firstC (c : F.Ct) : F.Ct := Classical.epsilon fun b => F.BestO (F.SM c 4 0) true b
theorem F.first_of {c b : F.Ct} (hG : F.GoodC c) (h : F.BestO (F.SM c 4 0) true b) : b = F.firstC c := by
  have hs : F.BestO (F.SM c 4 0) true (F.firstC c) := Classical.epsilon_spec ⟨b, h⟩
  rcases h with ⟨_, h⟩ | ⟨h, _⟩
  · exact F.same_best hG (h.congr fun x => (F.same_sets hG x).symm) hs
  · cases h
theorem F.first_ofI {c b : F.Ct} (hG : F.GoodC c) (h : F.Best (F.SI (F.beg c) 4) b) : b = F.firstC c :=
  F.first_of hG (.inl ⟨rfl, h.congr (F.same_sets hG)⟩)
theorem F.it_len (c : F.Ct) (n : Nat) : (F.it n c).l.length = c.l.length := by
  induction n with
  | zero => rfl
  | succ n ih => exact (F.tC_len _).trans ih
theorem F.SM_len {c x : F.Ct} (h : F.SM c 4 0 x) : x.l.length = c.l.length := by
  rcases h with ⟨i, _, _, rfl | rfl⟩ | ⟨_, h | h⟩
  · exact F.it_len c i
  · rw [F.mC_len, F.it_len]
  · omega
  · omega
theorem F.SM_good {c x : F.Ct} (hG : F.GoodC c) (h : F.SM c 4 0 x) : F.GoodC x := by
  rcases h with ⟨i, _, _, rfl | rfl⟩ | ⟨_, h | h⟩
  · exact F.good_it hG i
  · exact F.good_m (F.good_it hG i)
  · omega
  · omega
noncomputable def firstR (W H : Int) (L : List Sq) : List Sq := ifGood W H L (F.firstC ⟨W, H, L⟩).l
theorem F.best_ex (C : F.Ct) (i : Nat) : ∃ b, F.Best (F.SI C i) b := by
  induction i with
  | zero => exact ⟨_, F.SI_best C⟩
  | succ i ih =>
    obtain ⟨b, hb⟩ := ih
    by_cases hw : (F.it (i + 1) C).h ≤ (F.it (i + 1) C).w
    · have key : ∀ (S : F.Ct → Prop) (b x : F.Ct), F.Best S b → ∃ b', F.Best (fun y => S y ∨ y = x) b' := fun S b x h => by
        by_cases hlt : F.ltQ x.l b.l
        · exact ⟨x, h.yes hlt⟩
        · exact ⟨b, h.no hlt⟩
      obtain ⟨b1, h1⟩ := key _ b (F.it (i + 1) C) hb
      obtain ⟨b2, h2⟩ := key _ b1 (F.mC (F.it (i + 1) C)) h1
      exact ⟨b2, h2.congr (F.SI_step hw)⟩
    · exact ⟨b, hb.congr (F.SI_skip hw)⟩
theorem F.first_in {c : F.Ct} (hG : F.GoodC c) : F.SM c 4 0 (F.firstC c) := by
  obtain ⟨b, hb⟩ := F.best_ex (F.beg c) 4
  rw [← F.first_ofI hG hb]
  exact (F.same_sets hG b).1 hb.1
theorem first_room (W H : Int) (L : List Sq) : (firstR W H L).length ≤ 1048576 := by
  by_cases hG : Good W H L
  · unfold firstR
    rw [ifGood_yes hG, F.SM_len (F.first_in (c := ⟨W, H, L⟩) hG)]
    have := hG.2.2.1.2
    show L.length ≤ _
    omega
  · unfold firstR
    rw [ifGood_no hG]
    simp
noncomputable def firstW (W H : Int) (L : List Sq) : Int := cutX W H L (F.firstC ⟨W, H, L⟩).w
noncomputable def firstH (W H : Int) (L : List Sq) : Int := cutX W H L (F.firstC ⟨W, H, L⟩).h

set_option maxRecDepth 100000 in
set_option maxHeartbeats 4000000 in
theorem specFirst_any (W H : Int) (A : Option Addr) (n c : Nat) (L : List Sq) (w : World) (hl : L.length = n) (hc : n ≤ c) (hL : SqsAt w w.heap.size A L) :
    Calls Try.prog 20 #[.agg #[.int .i64 W, .int .i64 H, .slice A n c]] w (RetCut w (firstW W H L) (firstH W H L) (firstR W H L) (dc (Good W H L))) := by
  subst hl
  obtain ⟨W1, hW1⟩ : ∃ W1, W1 = (w.alloc (.cells #[.int .i64 W, .int .i64 H, .slice A L.length c] 28)).alloc (.cells #[.int .i64 0, .int .i64 0, .slice none 0 0] 28) := ⟨_, rfl⟩
  have hB1 : Below w.heap.size w W1 := by rw [hW1]; exact ((Below.refl _ _).alloc (Nat.le_refl _) _).alloc (by simp) _
  have hz1 : W1.heap.size = w.heap.size + 2 := by rw [hW1]; simp
  have T1 : TA w ⟨W, H, L⟩ W1 := by
    refine ⟨hB1, by omega, ⟨A, c, ?_, ?_, ?_, hc, SqsN.old (hL.below hB1) (by omega) (by omega)⟩, ⟨?_, ?_, ?_⟩, fun g o hg => ?_⟩
    · rw [hW1]; simp [go_sem]
    · rw [hW1]; simp [go_sem]
    · rw [hW1]; simp [go_sem]
    · rw [hW1]; simp [go_sem]
    · rw [hW1]; simp [go_sem]
    · rw [hW1]; simp [go_sem]
    · rw [hW1]
      rcases hg with rfl | rfl
      · rw [World.frozen?_alloc_past _ _ _ (by simp)]
        exact World.frozen?_alloc_at _ _ _ _ rfl
      · exact World.frozen?_alloc_at _ _ _ _ (by simp)
  have hL1 : SqsAt W1 W1.heap.size A L := (hL.below hB1).mono hB1.size
  have HT1 := Lib.hid T1
  have HB1 := Lib.hid hB1
  have b0 : W1.cell? ⟨w.heap.size, 0, none⟩ = some (.int .i64 W) := by rw [hW1]; simp [go_sem]
  have b1 : W1.cell? ⟨w.heap.size, 1, none⟩ = some (.int .i64 H) := by rw [hW1]; simp [go_sem]
  have b2 : W1.cell? ⟨w.heap.size, 2, none⟩ = some (.slice A L.length c) := by rw [hW1]; simp [go_sem]
  by_cases hG : Good W H L
  · have e1 : firstW W H L = (F.firstC ⟨W, H, L⟩).w := cutX_yes hG
    have e2 : firstH W H L = (F.firstC ⟨W, H, L⟩).h := cutX_yes hG
    have e3 : firstR W H L = (F.firstC ⟨W, H, L⟩).l := ifGood_yes hG
    rw [e1, e2, e3, dc_true hG]
    obtain ⟨b, hb⟩ : ∃ b, F.firstC ⟨W, H, L⟩ = b := ⟨_, rfl⟩
    rw [hb]
    have HB := Lib.hid hb
    have HG := Lib.hid hG
    clear e1 e2 e3 hb T1 hB1
    go_enter Try.func20, Try.ntmps20
    go_wp2_with fail
    rw [← hW1]
    refine (callB_yes (cuGood_any W H A _ c L _ rfl hc hL1) hG).mono ?_
    rintro e w2 ⟨rfl, hb2⟩
    have T2 := HT1.out.keep hb2
    clear b0 b1 b2 hb2 HT1 hL hG hL1 hz1 hW1
    obtain ⟨Ac, kc, c0, c1, c2, hkc, hSc⟩ := id (T2).cur
    obtain ⟨r0, r1, r2⟩ := id (T2).res
    have f00 := (T2).fr w.heap.size 0 (.inl rfl)
    have f01 := (T2).fr w.heap.size 1 (.inl rfl)
    have f02 := (T2).fr w.heap.size 2 (.inl rfl)
    have h00 := (T2).fr (w.heap.size + 1) 0 (.inr rfl)
    have h01 := (T2).fr (w.heap.size + 1) 1 (.inr rfl)
    have h02 := (T2).fr (w.heap.size + 1) 2 (.inr rfl)
    have hzA := (T2).size
    have hzN : w.heap.size < w2.heap.size := by omega
    have CT := cuTurns_any W H Ac _ kc L w2 rfl hkc hSc.sqs HG.out
    have HT2 := Lib.hid T2
    clear T2 hSc
    go_wp2_with fail
    (with_reducible refine CT.mono ?_)
    rintro e w3 ⟨A3, k3, b', rfl, hQ, ho3, hb3⟩
    obtain rfl : b' = b := (F.first_of (c := ⟨W, H, L⟩) HG.out hQ).trans HB.out
    have T3 := HT2.out.keep hb3
    have HO := Lib.hid ho3
    have hzw := HT2.out.size
    clear c0 c1 c2 r0 r1 r2 f00 f01 f02 h00 h01 h02 hzA hzN hkc
    clear CT hQ hb3 ho3
    obtain ⟨Ac, kc, c0, c1, c2, hkc, hSc⟩ := id (T3).cur
    obtain ⟨r0, r1, r2⟩ := id (T3).res
    have f00 := (T3).fr w.heap.size 0 (.inl rfl)
    have f01 := (T3).fr w.heap.size 1 (.inl rfl)
    have f02 := (T3).fr w.heap.size 2 (.inl rfl)
    have h00 := (T3).fr (w.heap.size + 1) 0 (.inr rfl)
    have h01 := (T3).fr (w.heap.size + 1) 1 (.inr rfl)
    have h02 := (T3).fr (w.heap.size + 1) 2 (.inr rfl)
    have hzA := (T3).size
    have hzN : w.heap.size < w3.heap.size := by omega
    clear hSc
    have hne : (Value.slice A3 b'.l.length k3).ownBlock ≠ some (w.heap.size + 1) := fun e => by have := (HO.out.lt _ e).1; omega
    have R := ownsRow_setCell_other (ownsRow_setCell_other (ownsRow_setCell_other HO.out (a := ⟨w.heap.size + 1, 0, none⟩) hne (.int .i64 b'.w)) (a := ⟨w.heap.size + 1, 1, none⟩) hne (.int .i64 b'.h)) (a := ⟨w.heap.size + 1, 2, none⟩) hne (.slice A3 b'.l.length k3)
    have hBE := ((T3.below.setCell (p := ⟨w.heap.size + 1, 0, none⟩) (by simp) (.int .i64 b'.w)).setCell (p := ⟨w.heap.size + 1, 1, none⟩) (by simp) (.int .i64 b'.h)).setCell (p := ⟨w.heap.size + 1, 2, none⟩) (by simp) (.slice A3 b'.l.length k3)
    have HR := Lib.hid R
    have HW := Lib.hid hBE
    clear T3 HO hne R hBE
    go_wp2_with fail
    refine bodyPost_ret (v := .tuple #[.agg #[.int .i64 b'.w, .int .i64 b'.h, .slice A3 b'.l.length k3], .bool true]) (by simp [results, Try.results20, go_sem, r0, r1, r2]) rfl ?_
    exact RetCut.mk rfl (own_base HR.out (by omega)) HW.out
  · have e1 : firstW W H L = 0 := cutX_no hG
    have e2 : firstH W H L = 0 := cutX_no hG
    have e3 : firstR W H L = [] := ifGood_no hG
    rw [e1, e2, e3, dc_false hG]
    clear e1 e2 e3 T1 hB1
    go_enter Try.func20, Try.ntmps20
    go_wp2_with fail
    rw [← hW1]
    refine (callB_no (cuGood_any W H A _ c L _ rfl hc hL1) hG).mono ?_
    rintro e w2 ⟨rfl, hb2⟩
    have T2 := HT1.out.keep hb2
    clear b0 b1 b2 hb2 HT1 hL hL1 hz1 hW1
    obtain ⟨Ac, kc, c0, c1, c2, hkc, hSc⟩ := id (T2).cur
    obtain ⟨r0, r1, r2⟩ := id (T2).res
    have f00 := (T2).fr w.heap.size 0 (.inl rfl)
    have f01 := (T2).fr w.heap.size 1 (.inl rfl)
    have f02 := (T2).fr w.heap.size 2 (.inl rfl)
    have h00 := (T2).fr (w.heap.size + 1) 0 (.inr rfl)
    have h01 := (T2).fr (w.heap.size + 1) 1 (.inr rfl)
    have h02 := (T2).fr (w.heap.size + 1) 2 (.inr rfl)
    have hzA := (T2).size
    have hzN : w.heap.size < w2.heap.size := by omega
    clear hSc
    have hBE := ((T2.below.setCell (p := ⟨w.heap.size + 1, 0, none⟩) (by simp) (.int .i64 0)).setCell (p := ⟨w.heap.size + 1, 1, none⟩) (by simp) (.int .i64 0)).setCell (p := ⟨w.heap.size + 1, 2, none⟩) (by simp) (.slice none 0 0)
    have HW := Lib.hid hBE
    clear T2 hBE
    go_wp2_with fail
    refine bodyPost_ret (v := .tuple #[.agg #[.int .i64 0, .int .i64 0, .slice none 0 0], .bool false]) (by simp [results, Try.results20, go_sem, r0, r1, r2]) rfl ?_
    exact RetCut.mk rfl (World.ownsRow_nil _ _ _ _) HW.out

set_option maxRecDepth 100000 in
set_option maxHeartbeats 4000000 in
theorem implFirstT_any (W H : Int) (A : Option Addr) (n c : Nat) (L : List Sq) (w : World) (hl : L.length = n) (hc : n ≤ c) (hL : SqsAt w w.heap.size A L) (hwf : ∀ s ∈ L, wfS s) :
    Calls Try.prog 21 #[.agg #[.int .i64 W, .int .i64 H, .slice A n c]] w (RetCut w (firstW W H L) (firstH W H L) (firstR W H L) (dc (Good W H L))) := by
  by_cases hG : Good W H L
  · have e1 : firstW W H L = (F.firstC ⟨W, H, L⟩).w := cutX_yes hG
    have e2 : firstH W H L = (F.firstC ⟨W, H, L⟩).h := cutX_yes hG
    have e3 : firstR W H L = (F.firstC ⟨W, H, L⟩).l := ifGood_yes hG
    rw [e1, e2, e3, dc_true hG]
    refine (implFirst_any W H A n c L w hl hc hL hwf hG).mono ?_
    rintro e w' ⟨Ag, k, b, rfl, hB, ho, hb⟩
    rw [← F.first_ofI (c := ⟨W, H, L⟩) hG hB]
    exact RetCut.mk rfl ho hb
  · have e1 : firstW W H L = 0 := cutX_no hG
    have e2 : firstH W H L = 0 := cutX_no hG
    have e3 : firstR W H L = [] := ifGood_no hG
    rw [e1, e2, e3, dc_false hG]
    clear e1 e2 e3
    subst hl
    obtain ⟨W1, hW1⟩ : ∃ W1, W1 = (w.alloc (.cells #[.int .i64 W, .int .i64 H, .slice A L.length c] 28)).alloc (.cells #[.int .i64 0, .int .i64 0, .slice none 0 0] 28) := ⟨_, rfl⟩
    have hB1 : Below w.heap.size w W1 := by rw [hW1]; exact ((Below.refl _ _).alloc (Nat.le_refl _) _).alloc (by simp) _
    have hz1 : W1.heap.size = w.heap.size + 2 := by rw [hW1]; simp
    have T1 : TA w ⟨W, H, L⟩ W1 := by
      refine ⟨hB1, by omega, ⟨A, c, ?_, ?_, ?_, hc, SqsN.old (hL.below hB1) (by omega) (by omega)⟩, ⟨?_, ?_, ?_⟩, fun g o hg => ?_⟩
      · rw [hW1]; simp [go_sem]
      · rw [hW1]; simp [go_sem]
      · rw [hW1]; simp [go_sem]
      · rw [hW1]; simp [go_sem]
      · rw [hW1]; simp [go_sem]
      · rw [hW1]; simp [go_sem]
      · rw [hW1]
        rcases hg with rfl | rfl
        · rw [World.frozen?_alloc_past _ _ _ (by simp)]
          exact World.frozen?_alloc_at _ _ _ _ rfl
        · exact World.frozen?_alloc_at _ _ _ _ (by simp)
    have hL1 : SqsAt W1 W1.heap.size A L := (hL.below hB1).mono hB1.size
    have HT1 := Lib.hid T1
    have HB1 := Lib.hid hB1
    have b0 : W1.cell? ⟨w.heap.size, 0, none⟩ = some (.int .i64 W) := by rw [hW1]; simp [go_sem]
    have b1 : W1.cell? ⟨w.heap.size, 1, none⟩ = some (.int .i64 H) := by rw [hW1]; simp [go_sem]
    have b2 : W1.cell? ⟨w.heap.size, 2, none⟩ = some (.slice A L.length c) := by rw [hW1]; simp [go_sem]
    go_enter Try.func21, Try.ntmps21
    go_wp2_with fail
    rw [← hW1]
    clear T1
    refine (callB_no (isCut_good W H A _ c L _ rfl hc hL1 hwf) hG).mono ?_
    rintro e w2 ⟨rfl, hb2⟩
    have T2 := HT1.out.keep hb2
    clear b0 b1 b2 hb2 HT1 hL hL1 hz1 hW1
    obtain ⟨Ac, kc, c0, c1, c2, hkc, hSc⟩ := id (T2).cur
    obtain ⟨r0, r1, r2⟩ := id (T2).res
    have f00 := (T2).fr w.heap.size 0 (.inl rfl)
    have f01 := (T2).fr w.heap.size 1 (.inl rfl)
    have f02 := (T2).fr w.heap.size 2 (.inl rfl)
    have h00 := (T2).fr (w.heap.size + 1) 0 (.inr rfl)
    have h01 := (T2).fr (w.heap.size + 1) 1 (.inr rfl)
    have h02 := (T2).fr (w.heap.size + 1) 2 (.inr rfl)
    have hzA := (T2).size
    have hzN : w.heap.size < w2.heap.size := by omega
    clear hSc
    have hBE := ((T2.below.setCell (p := ⟨w.heap.size + 1, 0, none⟩) (by simp) (.int .i64 0)).setCell (p := ⟨w.heap.size + 1, 1, none⟩) (by simp) (.int .i64 0)).setCell (p := ⟨w.heap.size + 1, 2, none⟩) (by simp) (.slice none 0 0)
    have HW := Lib.hid hBE
    clear T2 hBE
    go_wp2_with fail
    refine bodyPost_ret (v := .tuple #[.agg #[.int .i64 0, .int .i64 0, .slice none 0 0], .bool false]) (by simp [results, Try.results21, go_sem, r0, r1, r2]) rfl ?_
    exact RetCut.mk rfl (World.ownsRow_nil _ _ _ _) HW.out
end Go.Proofs.Ytdpbjmdgjhleeaa
