/- Contract of the model's sort of squares. -/
import Derived.Test.YtebnekicbcdnaaaApp
import Derived.Test.YtebnekicbcdnaaaGeo
import Derived.IntWalk
set_option linter.all false
namespace Go.Proofs.Ytebnekicbcdnaaa
open Go.RowKit

/-- A list of squares in their order, in memory of the call's own. -/
def RetSrt (w : World) (L : List Sq) (e : Ending) (w' : World) : Prop :=
  ∃ (A : Option Addr) (c : Nat) (T : List Sq), e = .returned (.slice A L.length c) ∧ T.Perm L ∧ T.Pairwise (fun a b => leB a b = true) ∧ w'.ownsRow w.heap.size 96 3 (.slice A L.length c) L.length (flat T) ∧ Below w.heap.size w w'
theorem own_drew {w : World} {base : Nat} {e : TypeId} {size n : Nat} {v : Value} {xs : List Value} (h : w.ownsRow base e size v n xs) : w.drew.ownsRow base e size v n xs := h.drew
theorem own_nil {w : World} {base : Nat} {e : TypeId} {size n c : Nat} {A : Option Addr} {xs : List Value} (h : w.ownsRow base e size (.slice A n c) n xs) : A = none → c = 0 := by
  rintro rfl
  rcases h.2 with ⟨hn, _⟩ | ⟨g, cap, cur, he, _⟩
  · cases hn; rfl
  · cases he
theorem src3 {w : World} {B : Nat} {a b c : Value} (z0 : w.cell? ⟨B, 0, none⟩ = some a) (z1 : w.cell? ⟨B, 1, none⟩ = some b) (z2 : w.cell? ⟨B, 2, none⟩ = some c) : ∀ j u, [a, b, c][j]? = some u → w.cell? ((⟨B, 0, none⟩ : Addr).add j) = some u := by
  intro j u hu
  rw [add_at, Nat.zero_add]
  rcases (by have := (List.getElem?_eq_some_iff.1 hu).1; simp at this; omega : j = 0 ∨ j = 1 ∨ j = 2) with rfl | rfl | rfl
  · simpa [← hu] using z0
  · simpa [← hu] using z1
  · simpa [← hu] using z2
theorem lit2 {base : Nat} {e : TypeId} {size : Nat} (w : World) (hb : base ≤ w.heap.size) {o : Obj} : ((w.alloc o).alloc (.cells #[] e)).ownsRow base e size (.slice (some ⟨w.heap.size + 1, 0, none⟩) 0 0) 0 [] := by
  have := World.ownsRow_lit (base := base) (e := e) (size := size) (w.alloc o) #[] 0 (by simp; omega) (Nat.zero_le _) (by simp)
  simpa using this
theorem app_room {n m : Nat} (h : n ≤ 30) (k : m ≤ 30) : n + m ≤ maxLen ∧ (n + m) * 24 ≤ 140737488355328 := ⟨by unfold maxLen; omega, by omega⟩

set_option maxRecDepth 100000 in
set_option maxHeartbeats 8000000 in
theorem cuSorted_any (A : Option Addr) (n c : Nat) (L : List Sq) (w : World) (hl : L.length = n) (hn : n ≤ 30) (hL : SqsAt w w.heap.size A L) :
    Calls Try.prog 109 #[.slice A n c] w (RetSrt w L) := by
  subst hl
  obtain ⟨i0, hi, hz0, hz1, hz2'⟩ := info_parts infoSq
  obtain ⟨g, hg⟩ : ∃ g, g = w.heap.size := ⟨_, rfl⟩
  rw [← hg] at hL
  have hBg := Lib.hid hg
  clear hg
  go_enter Try.func109, Try.ntmps109
  go_wp2_with fail
  go_loopw [3, 10] (fun v i wr => ∃ (k : Nat) (R : List Sq), k ≤ L.length ∧ i = .int .i64 k ∧ Below g w wr ∧ R.length = k ∧ wr.ownsRow g 96 3 v k (flat R) ∧ (k = 0 → v = .slice none 0 0) ∧ R.Perm (L.take k) ∧ R.Pairwise (fun a b => leB a b = true)) (fun _ i _ => L.length - (intOf i).toNat)
  case atStart => exact ⟨0, [], Nat.zero_le _, rfl, Below.refl _ _, rfl, World.ownsRow_nil _ _ _ _, fun _ => rfl, by simp, List.Pairwise.nil⟩
  case round =>
    obtain ⟨k, R, hk, rfl, hbr, hRl, hown, hnl, hp, hs⟩ := hrel
    have hgr : g ≤ wr.heap.size := by have := hbr.size; rw [hBg.out]; exact this
    by_cases hlt : k < L.length
    · obtain ⟨s, hsk⟩ : ∃ s, L[k]? = some s := ⟨_, List.getElem?_eq_getElem hlt⟩
      obtain ⟨b, off, rfl, hb, c0, c1, c2⟩ := (hL.below hbr) k s hsk
      rcases Nat.eq_zero_or_pos k with hk0 | hk0
      · have hv := hnl hk0
        subst hv
        subst hk0
        have hR : R = [] := List.eq_nil_of_length_eq_zero hRl
        subst hR
        have HK := Lib.hid hsk
        clear hp hs hsk hRl hL hnl hown
        simp only [Nat.zero_mul, Nat.add_zero] at c0 c1 c2
        go_wp2_with fail
        obtain ⟨W1, hW1⟩ : ∃ W1, W1 = wr.alloc (.cells #[.int .i64 s.x, .int .i64 s.y, .int .i64 s.d] 96) := ⟨_, rfl⟩
        have hB1 : Below wr.heap.size wr W1 := by rw [hW1]; exact (Below.refl _ _).alloc (Nat.le_refl _) _
        have f0 : W1.cell? ⟨wr.heap.size, 0, none⟩ = some (.int .i64 s.x) := by rw [hW1]; simp
        have f1 : W1.cell? ⟨wr.heap.size, 1, none⟩ = some (.int .i64 s.y) := by rw [hW1]; simp
        have f2 : W1.cell? ⟨wr.heap.size, 2, none⟩ = some (.int .i64 s.d) := by rw [hW1]; simp
        have hz1' : wr.heap.size < W1.heap.size := by rw [hW1]; simp
        rw [← hW1]
        clear hW1 c0 c1 c2
        refine wp_loop_rounds 1 ?_
        rw [rounds_succ]
        go_wp2_with fail
        refine wp_region_sub W1.heap.size (by kernel_rfl) (by kernel_rfl) ?_
        repeat (first | go_big_quiet_step (fail) | quiet_step (fail))
        refine wpQuiet_nil ?_
        rintro w2 ⟨uu, hu⟩; have hb2 := uu.ok; rw [← hu] at hb2; clear hu uu
        have f0 := (hb2.cell (p := ⟨wr.heap.size, 0, none⟩) hz1').trans f0
        have f1 := (hb2.cell (p := ⟨wr.heap.size, 1, none⟩) hz1').trans f1
        have f2 := (hb2.cell (p := ⟨wr.heap.size, 2, none⟩) hz1').trans f2
        have hz2 : wr.heap.size < w2.heap.size := by have := hb2.size; omega
        have hB2 := (hbr.trans (hB1.mono hgr)).trans (hb2.mono (by omega))
        have hbg : g ≤ w2.heap.size := by omega
        clear hB1 hb2 hz1'
        go_wp2_with fail
        go_region_law (first
              | (refine app_step rfl (.tmp 29) (.tmp 32) _ rfl g 96 i0 (.agg #[.int .i64 0, .int .i64 0, .int .i64 0]) 3 24 Try.underlying44 hi hz0 hz1 hz2' rfl (by decide) (.slice (some ⟨w2.heap.size, 0, none⟩) 0 0) 0 [] rfl (((World.ownsRow_lit w2 #[] 0 hbg (Nat.zero_le _) rfl).alloc _).drew) none 0 0 [] rfl rfl (.inl ⟨rfl, rfl, rfl, rfl⟩) (fun u hu => by simp at hu) (by simp) (by simp) (by simp; omega) ?_
                 intro v1 w3 hown3 hgrow hat
                 have hb3 : Below w2.heap.size w2 w3 := ((((Below.refl _ w2).alloc (Nat.le_refl _) _).alloc (by simp) _).drew).grown hgrow (by simp; try omega) (fun kk hkk => by simp [Value.ownBlock] at hkk; omega)
                 have hv1 : ∀ kk, v1.ownBlock = some kk → w2.heap.size ≤ kk := fun kk hkk => by rcases hat with h | h <;> (rw [h] at hkk; simp [Value.ownBlock] at hkk; omega)
                 have z0 := hgrow.cell (a := ⟨w2.heap.size + 1, 0, none⟩) (v := .int .i64 s.x) (by simp [go_sem]) (by simp [Value.ownBlock])
                 have z1 := hgrow.cell (a := ⟨w2.heap.size + 1, 1, none⟩) (v := .int .i64 s.y) (by simp [go_sem]) (by simp [Value.ownBlock])
                 have z2 := hgrow.cell (a := ⟨w2.heap.size + 1, 2, none⟩) (v := .int .i64 s.d) (by simp [go_sem]) (by simp [Value.ownBlock])
                 have y0 := (hb3.cell (p := ⟨wr.heap.size, 0, none⟩) hz2).trans f0
                 have y1 := (hb3.cell (p := ⟨wr.heap.size, 1, none⟩) hz2).trans f1
                 have y2 := (hb3.cell (p := ⟨wr.heap.size, 2, none⟩) hz2).trans f2
                 have hs3 := hb3.size
                 simp only [List.append_nil, Nat.zero_add] at hown3
                 clear hgrow hat)
              | (refine app_step rfl (.tmp 29) (.tmp 32) _ rfl g 96 i0 (.agg #[.int .i64 0, .int .i64 0, .int .i64 0]) 3 24 Try.underlying44 hi hz0 hz1 hz2' rfl (by decide) (.slice (some ⟨w2.heap.size + 1, 0, none⟩) 0 0) 0 [] rfl ((lit2 w2 hbg).drew) none 0 0 [] rfl rfl (.inl ⟨rfl, rfl, rfl, rfl⟩) (fun u hu => by simp at hu) (by simp) (by simp) (by simp; omega) ?_
                 intro v1 w3 hown3 hgrow hat
                 have hb3 : Below w2.heap.size w2 w3 := ((((Below.refl _ w2).alloc (Nat.le_refl _) _).alloc (by simp) _).drew).grown hgrow (by simp; try omega) (fun kk hkk => by simp [Value.ownBlock] at hkk; omega)
                 have hv1 : ∀ kk, v1.ownBlock = some kk → w2.heap.size ≤ kk := fun kk hkk => by rcases hat with h | h <;> (rw [h] at hkk; simp [Value.ownBlock] at hkk; omega)
                 have z0 := hgrow.cell (a := ⟨w2.heap.size, 0, none⟩) (v := .int .i64 s.x) (by simp [go_sem]) (by simp [Value.ownBlock])
                 have z1 := hgrow.cell (a := ⟨w2.heap.size, 1, none⟩) (v := .int .i64 s.y) (by simp [go_sem]) (by simp [Value.ownBlock])
                 have z2 := hgrow.cell (a := ⟨w2.heap.size, 2, none⟩) (v := .int .i64 s.d) (by simp [go_sem]) (by simp [Value.ownBlock])
                 have y0 := (hb3.cell (p := ⟨wr.heap.size, 0, none⟩) hz2).trans f0
                 have y1 := (hb3.cell (p := ⟨wr.heap.size, 1, none⟩) hz2).trans f1
                 have y2 := (hb3.cell (p := ⟨wr.heap.size, 2, none⟩) hz2).trans f2
                 have hs3 := hb3.size
                 simp only [List.append_nil, Nat.zero_add] at hown3
                 clear hgrow hat)
              | (refine app_step rfl (.tmp 29) (.tmp 32) _ rfl g 96 i0 (.agg #[.int .i64 0, .int .i64 0, .int .i64 0]) 3 24 Try.underlying44 hi hz0 hz1 hz2' rfl (by decide) (.slice (some ⟨w2.heap.size, 0, none⟩) 0 0) 0 [] rfl ((World.ownsRow_lit w2 #[] 0 hbg (Nat.zero_le _) rfl).drew) none 0 0 [] rfl rfl (.inl ⟨rfl, rfl, rfl, rfl⟩) (fun u hu => by simp at hu) (by simp) (by simp) (by simp; omega) ?_
                 intro v1 w3 hown3 hgrow hat
                 have hb3 : Below w2.heap.size w2 w3 := (((Below.refl _ w2).alloc (Nat.le_refl _) _).drew).grown hgrow (by simp; try omega) (fun kk hkk => by simp [Value.ownBlock] at hkk; omega)
                 have hv1 : ∀ kk, v1.ownBlock = some kk → w2.heap.size ≤ kk := fun kk hkk => by rcases hat with h | h <;> (rw [h] at hkk; simp [Value.ownBlock] at hkk; omega)
                 have y0 := (hb3.cell (p := ⟨wr.heap.size, 0, none⟩) hz2).trans f0
                 have y1 := (hb3.cell (p := ⟨wr.heap.size, 1, none⟩) hz2).trans f1
                 have y2 := (hb3.cell (p := ⟨wr.heap.size, 2, none⟩) hz2).trans f2
                 have hs3 := hb3.size
                 simp only [List.append_nil, Nat.zero_add] at hown3
                 clear hgrow hat)
              | (refine app_step rfl (.tmp 33) (.tmp 35) _ rfl g 96 i0 (.agg #[.int .i64 0, .int .i64 0, .int .i64 0]) 3 24 Try.underlying44 hi hz0 hz1 hz2' rfl (by decide) _ 0 [] rfl (by first | exact hown3 | exact hown3.alloc _) _ 1 1 [.int .i64 s.x, .int .i64 s.y, .int .i64 s.d] rfl rfl (.inr ⟨_, rfl, by first | exact new3 _ _ _ _ _ | exact src3 z0 z1 z2⟩) (one3 _ _ _) (app_room (Nat.zero_le _) (by decide)).1 (app_room (Nat.zero_le _) (by decide)).2 (by first | omega | (simp; omega)) ?_
                 intro v2 w4 hown4 hgrow4 hat4
                 have hb4 : Below w2.heap.size w2 w4 := by first | exact hb3.grown hgrow4 hs3 hv1 | exact (hb3.alloc hs3 _).grown hgrow4 (by simp; omega) hv1
                 clear hgrow4 hat4))
        all_goals
          have hs4 := hb4.size
          clear y0 y1 y2 f0 f1 f2
          go_wp2_with (at_builtin; refine wpList_append_own_none rfl (.tmp 37) (.tmp 40) _ rfl g 96 i0 3 Try.underlying44 hi v2 1 _ rfl hown4 rfl ?_)
          go_roundw
          case rel => exact ⟨1, [s], by omega, by go_num, hB2.trans (hb4.mono hbg), rfl, by simpa [flat] using hown4, fun h => by omega, by rw [List.take_add_one, HK.out]; simp, by simp⟩
          case measure => simp [intOf]; omega
      obtain ⟨A6, c6, rfl⟩ := own_val hown
      obtain ⟨g6, rfl⟩ := own_form hown hk0
      clear hnl
      have hcap := own_cap hown
      have HP := Lib.hid hp
      have HS := Lib.hid hs
      have HK := Lib.hid hsk
      have HR := Lib.hid hRl
      clear hp hs hsk hRl hL
      go_wp2_with fail
      obtain ⟨wo, rfl⟩ : ∃ wo : World, wo = wr := ⟨_, rfl⟩
      obtain ⟨W1, hW1⟩ : ∃ W1, W1 = wo.alloc (.cells #[.int .i64 s.x, .int .i64 s.y, .int .i64 s.d] 96) := ⟨_, rfl⟩
      have hsz : wo.heap.size + 1 = W1.heap.size := by rw [hW1]; simp
      have hB1 : Below wo.heap.size wo W1 := by rw [hW1]; exact (Below.refl _ _).alloc (Nat.le_refl _) _
      have S0 : W1.cell? ⟨wo.heap.size, 0, none⟩ = some (.int .i64 s.x) := by rw [hW1]; simp
      have S1 : W1.cell? ⟨wo.heap.size, 1, none⟩ = some (.int .i64 s.y) := by rw [hW1]; simp
      have S2 : W1.cell? ⟨wo.heap.size, 2, none⟩ = some (.int .i64 s.d) := by rw [hW1]; simp
      have hown1 := own_keep hown hB1
      rw [← hW1]
      clear hW1 c0 c1 c2
      go_loopw [6] (fun kv wi => ∃ m : Nat, m ≤ k ∧ kv = .int .i64 m ∧ Below (wo.heap.size + 1) W1 wi ∧ (∀ (j : Nat) q, m ≤ j → R[j]? = some q → lt2 s q)) (fun kv _ => (intOf kv).toNat)
      case atStart => exact ⟨k, Nat.le_refl _, rfl, Below.refl _ _, fun j q hj hq => by rw [List.getElem?_eq_none (by have := HR.out; omega)] at hq; cases hq⟩
      case round =>
        obtain ⟨m, hm, rfl, hbi, hin⟩ := hrel
        have hIn := Lib.hid hin
        clear hin
        have howni := own_below hown1 hbi (fun kk hkk => by have := (hown.lt kk hkk).2; omega)
        have F0 := (hbi.cell (p := ⟨wo.heap.size, 0, none⟩) (Nat.lt_succ_self _)).trans S0
        have F1 := (hbi.cell (p := ⟨wo.heap.size, 1, none⟩) (Nat.lt_succ_self _)).trans S1
        have F2 := (hbi.cell (p := ⟨wo.heap.size, 2, none⟩) (Nat.lt_succ_self _)).trans S2
        have hzi : wo.heap.size < wr.heap.size := by have := hbi.size; omega
        by_cases hgo : 0 < m ∧ ∀ q, R[m - 1]? = some q → lt2 s q
        · obtain ⟨h0, hall⟩ := hgo
          obtain ⟨q, hq⟩ : ∃ q, R[m - 1]? = some q := ⟨_, List.getElem?_eq_getElem (by have := HR.out; omega)⟩
          have hyes := hall q hq
          clear hall
          have hfq := flat_get R (m - 1) q hq
          have hg6 := (howni.lt g6 rfl).2
          have hg6' := (hown.lt g6 rfl).2
          have Q : ∀ j v, j < k * 3 → (flat R)[j]? = some v → ∀ u : Later (wo.heap.size + 1) wr, u.val.cell? ⟨g6, j, none⟩ = some v := fun j v hj hv u => (u.ok.cell (p := ⟨g6, j, none⟩) (by show g6 < _; omega)).trans ((howni.cellAt j hj).trans hv)
          have Q0 := Q _ _ (by omega) hfq.1
          have Q1 := Q _ _ (by omega) hfq.2.1
          have Q2 := Q _ _ (by omega) hfq.2.2
          have G : ∀ j v, wr.cell? ⟨wo.heap.size, j, none⟩ = some v → ∀ u : Later (wo.heap.size + 1) wr, u.val.cell? ⟨wo.heap.size, j, none⟩ = some v := fun j v hv u => (u.ok.cell (p := ⟨wo.heap.size, j, none⟩) (Nat.lt_succ_self _)).trans hv
          have G0 := G 0 _ F0
          have G1 := G 1 _ F1
          have G2 := G 2 _ F2
          have CL := fun u : Later (wo.heap.size + 1) wr => callB_yes (cuLess_any s.x s.y s.d q.x q.y q.d u.val) hyes
          have e1 : IntKind.i64.wrap ((m : Int) - 1) = (m : Int) - 1 := IntWalk.i64_in _ (by omega)
          have e2 : (0 : Int) ≤ (m : Int) - 1 := by omega
          have e2' : (1 : Int) ≤ (m : Int) := by omega
          have e3 : ((m : Int) - 1).toNat = m - 1 := by omega
          have e4 : (m : Int) - 1 < (k : Int) := by omega
          have hd : decide ((0 : Int) < (m : Int)) = true := by rw [decide_eq_true_iff]; omega
          have HQ := Lib.hid hq
          clear hq hfq Q G
          go_wp2_with fail
          refine wp_region_sub (wo.heap.size + 1) (by kernel_rfl) (by kernel_rfl) ?_
          repeat (first | go_big_quiet_step ((go_at_call 110; exact sub_of _ hzi (CL _))) | quiet_step ((go_at_call 110; exact sub_of _ hzi (CL _))))
          refine wpQuiet_nil ?_
          rintro w2 ⟨uu, hu⟩; have hb2 := uu.ok; rw [← hu] at hb2; clear hu uu hd CL Q0 Q1 Q2 G0 G1 G2 e1
          go_wp2_with fail
          go_roundw
          case rel =>
            refine ⟨m - 1, by omega, ?_, hbi.trans hb2, fun j q' hj hq' => ?_⟩
            · congr 1; omega
            · by_cases e : j = m - 1
              · subst e
                obtain rfl := Option.some.inj (HQ.out.symm.trans hq')
                exact hyes
              · exact hIn.out j q' (by omega) hq'
          case measure => simp [intOf]; omega
        · have hst : ∀ q, 0 < m → R[m - 1]? = some q → ¬ lt2 s q := by
            intro q h0 hq hl
            exact hgo ⟨h0, fun q' hq' => by rw [hq] at hq'; cases hq'; exact hl⟩
          have HST := Lib.hid hst
          clear hst hgo
          rcases Nat.eq_zero_or_pos m with h0 | h0
          case' inl =>
            have hd : decide ((0 : Int) < (m : Int)) = false := by rw [decide_eq_false_iff_not]; omega
            have hdN : decide (0 < m) = false := by rw [decide_eq_false_iff_not]; omega
            have h00 := Lib.hid h0
            clear h0
            go_wp2_with fail
            refine wp_region_sub (wo.heap.size + 1) (by kernel_rfl) (by kernel_rfl) ?_
            repeat (first | go_big_quiet_step (fail) | quiet_step (fail))
            refine wpQuiet_nil ?_
            rintro w2 ⟨uu, hu⟩; have hb2 := uu.ok; rw [← hu] at hb2; clear hu uu hd hdN
          case' inr =>
            obtain ⟨q, hq⟩ : ∃ q, R[m - 1]? = some q := ⟨_, List.getElem?_eq_getElem (by have := HR.out; omega)⟩
            have hno := HST.out q h0 hq
            have hfq := flat_get R (m - 1) q hq
            have hg6 := (howni.lt g6 rfl).2
            have hg6' := (hown.lt g6 rfl).2
            have Q : ∀ j v, j < k * 3 → (flat R)[j]? = some v → ∀ u : Later (wo.heap.size + 1) wr, u.val.cell? ⟨g6, j, none⟩ = some v := fun j v hj hv u => (u.ok.cell (p := ⟨g6, j, none⟩) (by show g6 < _; omega)).trans ((howni.cellAt j hj).trans hv)
            have Q0 := Q _ _ (by omega) hfq.1
            have Q1 := Q _ _ (by omega) hfq.2.1
            have Q2 := Q _ _ (by omega) hfq.2.2
            have G : ∀ j v, wr.cell? ⟨wo.heap.size, j, none⟩ = some v → ∀ u : Later (wo.heap.size + 1) wr, u.val.cell? ⟨wo.heap.size, j, none⟩ = some v := fun j v hv u => (u.ok.cell (p := ⟨wo.heap.size, j, none⟩) (Nat.lt_succ_self _)).trans hv
            have G0 := G 0 _ F0
            have G1 := G 1 _ F1
            have G2 := G 2 _ F2
            have CL := fun u : Later (wo.heap.size + 1) wr => callB_no (cuLess_any s.x s.y s.d q.x q.y q.d u.val) hno
            have e1 : IntKind.i64.wrap ((m : Int) - 1) = (m : Int) - 1 := IntWalk.i64_in _ (by omega)
            have e2 : (0 : Int) ≤ (m : Int) - 1 := by omega
            have e2' : (1 : Int) ≤ (m : Int) := by omega
            have e3 : ((m : Int) - 1).toNat = m - 1 := by omega
            have e4 : (m : Int) - 1 < (k : Int) := by omega
            have hd : decide ((0 : Int) < (m : Int)) = true := by rw [decide_eq_true_iff]; omega
            have HQ := Lib.hid hq
            clear hq hfq Q G
            go_wp2_with fail
            refine wp_region_sub (wo.heap.size + 1) (by kernel_rfl) (by kernel_rfl) ?_
            repeat (first | go_big_quiet_step ((go_at_call 110; exact sub_of _ hzi (CL _))) | quiet_step ((go_at_call 110; exact sub_of _ hzi (CL _))))
            refine wpQuiet_nil ?_
            rintro w2 ⟨uu, hu⟩; have hb2 := uu.ok; rw [← hu] at hb2; clear hu uu e1 e2 e2' e3 e4 hd CL Q0 Q1 Q2 G0 G1 G2
          all_goals
            have own2 := own_below howni hb2 (fun kk hkk => by have := (howni.lt kk hkk).2; have := (hown.lt kk hkk).2; omega)
            have f0 := (hb2.cell (p := ⟨wo.heap.size, 0, none⟩) (Nat.lt_succ_self _)).trans F0
            have f1 := (hb2.cell (p := ⟨wo.heap.size, 1, none⟩) (Nat.lt_succ_self _)).trans F1
            have f2 := (hb2.cell (p := ⟨wo.heap.size, 2, none⟩) (Nat.lt_succ_self _)).trans F2
            have hz2 : wo.heap.size < w2.heap.size := by have := hb2.size; omega
            have hB2 := (hbr.trans ((hB1.mono hgr).trans (hbi.mono (show g ≤ wo.heap.size + 1 by omega)))).trans (hb2.mono (show g ≤ wo.heap.size + 1 by omega))
            have hgk := fun kk hkk => (hown.lt kk hkk)
            clear F0 F1 F2 S0 S1 S2 hbi hb2 hown1 howni hown hB1
            have hmc : m ≤ c6 := by omega
            have hm30 : m ≤ 30 := by omega
            have m0 : (0 : Int) ≤ (m : Int) := by omega
            have mk : (m : Int) ≤ (k : Int) := by omega
            have hbg : g ≤ w2.heap.size := by omega
            have hgl := Lib.hid hgk
            have hnil : some (⟨g6, 0, none⟩ : Addr) = none → c6 = 0 := fun h => by cases h
            have hlm := Lib.hid (show (flat (R.take m)).length = m * 3 by rw [flat_len, List.length_take, HR.out]; omega)
            clear hgk
            go_wp2_with fail
            go_region_law (first
              | (refine app_step rfl (.tmp 29) (.tmp 32) _ rfl g 96 i0 (.agg #[.int .i64 0, .int .i64 0, .int .i64 0]) 3 24 Try.underlying44 hi hz0 hz1 hz2' rfl (by decide) (.slice (some ⟨w2.heap.size, 0, none⟩) 0 0) 0 [] rfl (((World.ownsRow_lit w2 #[] 0 hbg (Nat.zero_le _) rfl).alloc _).drew) _ m c6 (flat (R.take m)) rfl hlm.out (src_take (((own2.alloc _).alloc _).drew) hm hnil) (flat_one _) (app_room (Nat.zero_le _) hm30).1 (app_room (Nat.zero_le _) hm30).2 (by simp; omega) ?_
                 intro v1 w3 hown3 hgrow hat
                 have hb3 : Below w2.heap.size w2 w3 := ((((Below.refl _ w2).alloc (Nat.le_refl _) _).alloc (by simp) _).drew).grown hgrow (by simp; try omega) (fun kk hkk => by simp [Value.ownBlock] at hkk; omega)
                 have hv1 : ∀ kk, v1.ownBlock = some kk → w2.heap.size ≤ kk := fun kk hkk => by rcases hat with h | h <;> (rw [h] at hkk; simp [Value.ownBlock] at hkk; omega)
                 have z0 := hgrow.cell (a := ⟨w2.heap.size + 1, 0, none⟩) (v := .int .i64 s.x) (by simp [go_sem]) (by simp [Value.ownBlock])
                 have z1 := hgrow.cell (a := ⟨w2.heap.size + 1, 1, none⟩) (v := .int .i64 s.y) (by simp [go_sem]) (by simp [Value.ownBlock])
                 have z2 := hgrow.cell (a := ⟨w2.heap.size + 1, 2, none⟩) (v := .int .i64 s.d) (by simp [go_sem]) (by simp [Value.ownBlock])
                 have y0 := (hb3.cell (p := ⟨wo.heap.size, 0, none⟩) hz2).trans f0
                 have y1 := (hb3.cell (p := ⟨wo.heap.size, 1, none⟩) hz2).trans f1
                 have y2 := (hb3.cell (p := ⟨wo.heap.size, 2, none⟩) hz2).trans f2
                 have hs3 := hb3.size
                 simp only [List.nil_append, Nat.zero_add] at hown3
                 clear hgrow hat)
              | (refine app_step rfl (.tmp 29) (.tmp 32) _ rfl g 96 i0 (.agg #[.int .i64 0, .int .i64 0, .int .i64 0]) 3 24 Try.underlying44 hi hz0 hz1 hz2' rfl (by decide) (.slice (some ⟨w2.heap.size + 1, 0, none⟩) 0 0) 0 [] rfl ((lit2 w2 hbg).drew) _ m c6 (flat (R.take m)) rfl hlm.out (src_take (((own2.alloc _).alloc _).drew) hm hnil) (flat_one _) (app_room (Nat.zero_le _) hm30).1 (app_room (Nat.zero_le _) hm30).2 (by simp; omega) ?_
                 intro v1 w3 hown3 hgrow hat
                 have hb3 : Below w2.heap.size w2 w3 := ((((Below.refl _ w2).alloc (Nat.le_refl _) _).alloc (by simp) _).drew).grown hgrow (by simp; try omega) (fun kk hkk => by simp [Value.ownBlock] at hkk; omega)
                 have hv1 : ∀ kk, v1.ownBlock = some kk → w2.heap.size ≤ kk := fun kk hkk => by rcases hat with h | h <;> (rw [h] at hkk; simp [Value.ownBlock] at hkk; omega)
                 have z0 := hgrow.cell (a := ⟨w2.heap.size, 0, none⟩) (v := .int .i64 s.x) (by simp [go_sem]) (by simp [Value.ownBlock])
                 have z1 := hgrow.cell (a := ⟨w2.heap.size, 1, none⟩) (v := .int .i64 s.y) (by simp [go_sem]) (by simp [Value.ownBlock])
                 have z2 := hgrow.cell (a := ⟨w2.heap.size, 2, none⟩) (v := .int .i64 s.d) (by simp [go_sem]) (by simp [Value.ownBlock])
                 have y0 := (hb3.cell (p := ⟨wo.heap.size, 0, none⟩) hz2).trans f0
                 have y1 := (hb3.cell (p := ⟨wo.heap.size, 1, none⟩) hz2).trans f1
                 have y2 := (hb3.cell (p := ⟨wo.heap.size, 2, none⟩) hz2).trans f2
                 have hs3 := hb3.size
                 simp only [List.nil_append, Nat.zero_add] at hown3
                 clear hgrow hat)
              | (refine app_step rfl (.tmp 29) (.tmp 32) _ rfl g 96 i0 (.agg #[.int .i64 0, .int .i64 0, .int .i64 0]) 3 24 Try.underlying44 hi hz0 hz1 hz2' rfl (by decide) (.slice (some ⟨w2.heap.size, 0, none⟩) 0 0) 0 [] rfl ((World.ownsRow_lit w2 #[] 0 hbg (Nat.zero_le _) rfl).drew) _ m c6 (flat (R.take m)) rfl hlm.out (src_take ((own2.alloc _).drew) hm hnil) (flat_one _) (app_room (Nat.zero_le _) hm30).1 (app_room (Nat.zero_le _) hm30).2 (by simp; omega) ?_
                 intro v1 w3 hown3 hgrow hat
                 have hb3 : Below w2.heap.size w2 w3 := (((Below.refl _ w2).alloc (Nat.le_refl _) _).drew).grown hgrow (by simp; try omega) (fun kk hkk => by simp [Value.ownBlock] at hkk; omega)
                 have hv1 : ∀ kk, v1.ownBlock = some kk → w2.heap.size ≤ kk := fun kk hkk => by rcases hat with h | h <;> (rw [h] at hkk; simp [Value.ownBlock] at hkk; omega)
                 have y0 := (hb3.cell (p := ⟨wo.heap.size, 0, none⟩) hz2).trans f0
                 have y1 := (hb3.cell (p := ⟨wo.heap.size, 1, none⟩) hz2).trans f1
                 have y2 := (hb3.cell (p := ⟨wo.heap.size, 2, none⟩) hz2).trans f2
                 have hs3 := hb3.size
                 simp only [List.nil_append, Nat.zero_add] at hown3
                 clear hgrow hat)
              | (refine app_step rfl (.tmp 33) (.tmp 35) _ rfl g 96 i0 (.agg #[.int .i64 0, .int .i64 0, .int .i64 0]) 3 24 Try.underlying44 hi hz0 hz1 hz2' rfl (by decide) _ m (flat (R.take m)) rfl (by first | exact hown3 | exact hown3.alloc _) _ 1 1 [.int .i64 s.x, .int .i64 s.y, .int .i64 s.d] rfl rfl (.inr ⟨_, rfl, by first | exact new3 _ _ _ _ _ | exact src3 z0 z1 z2⟩) (one3 _ _ _) (app_room hm30 (by decide)).1 (app_room hm30 (by decide)).2 (by first | omega | (simp; omega)) ?_
                 intro v2 w4 hown4 hgrow4 hat4
                 have hb4 : Below w2.heap.size w2 w4 := by first | exact hb3.grown hgrow4 hs3 hv1 | exact (hb3.alloc hs3 _).grown hgrow4 (by simp; omega) hv1
                 clear hgrow4 hat4))
            all_goals
              have hld : (flat (R.drop m)).length = (k - m) * 3 := by rw [flat_len, List.length_drop, HR.out]
              have HLD := Lib.hid hld
              have own4 := own_keep own2 hb4
              have hs4 := hb4.size
              have hcap2 := hcap
              clear hld y0 y1 y2 f0 f1 f2 own2
              have fin : ∀ (v3 : Value) (w5 : World), w5.ownsRow g 96 3 v3 (m + 1 + (k - m)) (flat (R.take m) ++ [.int .i64 s.x, .int .i64 s.y, .int .i64 s.d] ++ flat (R.drop m)) → w4.grownBy w5 v2.ownBlock →
                  ∃ (R' : List Sq), k + 1 ≤ L.length ∧ Below g w w5 ∧ R'.length = k + 1 ∧ w5.ownsRow g 96 3 v3 (k + 1) (flat R') ∧ R'.Perm (L.take (k + 1)) ∧ R'.Pairwise (fun a b => leB a b = true) := by
                intro v3 w5 ho hg5
                refine ⟨R.take m ++ s :: R.drop m, by omega, ?_, ?_, ?_, ?_, ?_⟩
                · exact (hB2.trans (hb4.mono hbg)).grown hg5 (by omega) (fun kk hkk => (hown4.lt kk hkk).1)
                · have := (ins_perm R s m).length_eq; rw [this, List.length_cons, HR.out]
                · rw [show m + 1 + (k - m) = k + 1 by omega] at ho
                  rw [flat_app]
                  simpa [flat] using ho
                · refine (ins_perm R s m).trans ((HP.out.cons s).trans ?_)
                  rw [List.take_add_one, HK.out]
                  exact (List.perm_append_singleton s (L.take k)).symm
                · exact ins_pair HS.out (by rw [HR.out]; exact hm) hIn.out (fun q h q' => HST.out q h q')
              have Fin := Lib.hid fin
              clear fin
              have k1 : (k : Int) ≤ (c6 : Int) := by omega
              by_cases hcm : c6 = m
              · have hsrc : ∀ x, Src w4 (some ⟨g6, 0, none⟩) (k - m) x (flat (R.drop m)) := fun _ => .inr ⟨_, rfl, fun j u hu => by have := (List.getElem?_eq_some_iff.1 hu).1; rw [HLD.out] at this; omega⟩
                go_wp2_with (at_builtin; refine app_list rfl (.tmp 37) (.tmp 40) _ rfl g 96 i0 (.agg #[.int .i64 0, .int .i64 0, .int .i64 0]) 3 24 Try.underlying44 hi hz0 hz1 hz2' rfl (by decide) v2 (m + 1) _ rfl hown4 _ (k - m) _ (flat (R.drop m)) rfl HLD.out (hsrc _) (flat_one _) (app_room (by omega) (by omega)).1 (app_room (by omega) (by omega)).2 (by omega) ?_; intro v3 w5 hown5 hgrow5 _)
                obtain ⟨R', r1, r2, r3, r4, r5, r6⟩ := Fin.out v3 w5 hown5 hgrow5
                go_wp2_with fail
                go_roundw
                case rel => exact ⟨k + 1, R', r1, by go_num, r2, r3, r4, fun h => by omega, r5, r6⟩
                case measure => simp [intOf]; omega
              · have hsrc : ∀ x, Src w4 (some ⟨g6, m * 3, none⟩) (k - m) x (flat (R.drop m)) := by
                  intro x
                  have := src_drop own4 hm hcap2 x
                  rwa [if_neg hcm] at this
                go_wp2_with (at_builtin; refine app_list rfl (.tmp 37) (.tmp 40) _ rfl g 96 i0 (.agg #[.int .i64 0, .int .i64 0, .int .i64 0]) 3 24 Try.underlying44 hi hz0 hz1 hz2' rfl (by decide) v2 (m + 1) _ rfl hown4 _ (k - m) _ (flat (R.drop m)) rfl HLD.out (hsrc _) (flat_one _) (app_room (by omega) (by omega)).1 (app_room (by omega) (by omega)).2 (by omega) ?_; intro v3 w5 hown5 hgrow5 _)
                obtain ⟨R', r1, r2, r3, r4, r5, r6⟩ := Fin.out v3 w5 hown5 hgrow5
                go_wp2_with fail
                go_roundw
                case rel => exact ⟨k + 1, R', r1, by go_num, r2, r3, r4, fun h => by omega, r5, r6⟩
                case measure => simp [intOf]; omega
    · obtain rfl : k = L.length := by omega
      obtain ⟨A6, c6, rfl⟩ := own_val hown
      rw [List.take_length] at hp
      go_wp2_with fail
      go_ret
      exact ⟨A6, c6, R, rfl, hp, hs, by rw [← hBg.out]; exact hown, by rw [← hBg.out]; exact hbr⟩
end Go.Proofs.Ytebnekicbcdnaaa
