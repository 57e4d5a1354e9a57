/- The model's sides of a strip in the order of filling. -/
import Derived.Test.YtohajmbgdapnhaaApp
import Derived.Test.YtohajmbgdapnhaaJoinG
import Derived.Test.YtohajmbgdapnhaaLnE
import Derived.Test.YtohajmbgdapnhaaSides
import Derived.IntWalk
import Derived.Deep.RegionLaw
set_option linter.all false
namespace Go.Proofs.Ytohajmbgdapnhaa
open Go.RowKit

theorem ins_pairX {R : List Sq} {s : Sq} {k : Nat} (hR : (R.map J.swS).Pairwise (fun a b => leB a b = true)) (hk : k ≤ R.length) (ha : ∀ (j : Nat) q, k ≤ j → R[j]? = some q → lt2 (J.swS s) (J.swS q))
    (hb : ∀ q, 0 < k → R[k - 1]? = some q → ¬ lt2 (J.swS s) (J.swS q)) : ((R.take k ++ s :: R.drop k).map J.swS).Pairwise (fun a b => leB a b = true) := by
  have h := ins_pair (R := R.map J.swS) (s := J.swS s) (k := k) hR (by simpa using hk) (fun j q h1 h2 => by
    rw [List.getElem?_map] at h2
    cases h3 : R[j]? with
    | none => rw [h3] at h2; cases h2
    | some p => rw [h3] at h2; cases h2; exact ha j p h1 h3) (fun q h1 h2 => by
    rw [List.getElem?_map] at h2
    cases h3 : R[k - 1]? with
    | none => rw [h3] at h2; cases h2
    | some p => rw [h3] at h2; cases h2; exact hb p h1 h3)
  rw [← List.map_take, ← List.map_drop] at h
  simpa using h
theorem sides_sw {W H : Int} {L R : List Sq} (hp : R.Perm L) (hs : (R.map J.swS).Pairwise (fun a b => leB a b = true)) (hF : Fill W H L) : sides R = sides (srt (J.swL L)) := by
  have e := srt_uniq (L := J.swL L) (R := R.map J.swS) (hp.map _) hs (J.fill_sw hF).dist
  rw [← e]
  unfold sides
  rw [List.map_map]
  rfl

set_option maxRecDepth 100000 in
set_option maxHeartbeats 16000000 in
theorem stSides_any (W H : Int) (A : Option Addr) (n c : Nat) (L : List Sq) (w : World) (hl : L.length = n) (hL : SqsAt w w.heap.size A L) (hF : Fill W H L) :
    Calls Try.prog 91 #[.agg #[.int .i64 W, .int .i64 H, .slice A n c]] w (RetL w (sides (srt (J.swL L)))) := by
  subst hl
  obtain ⟨i0, hi, hz0, hz1, hz2'⟩ := info_parts infoSq
  have hn := hF.n.2
  have HFILL := Lib.hid hF
  obtain ⟨w1, hw1⟩ : ∃ w1, w1 = w.alloc (.cells #[.int .i64 W, .int .i64 H, .slice A L.length c] 30) := ⟨_, rfl⟩
  have hb1 : Below w.heap.size w w1 := by rw [hw1]; exact (Below.refl _ _).alloc (Nat.le_refl _) _
  have hL1 := (hL.below hb1).mono hb1.size
  obtain ⟨g, hg⟩ : ∃ g, g = w1.heap.size := ⟨_, rfl⟩
  rw [← hg] at hL1
  have hBg := Lib.hid hg
  have hgw : w.heap.size ≤ g := by rw [hg]; exact hb1.size
  clear hg hL hF
  go_enter Try.func91, Try.ntmps91
  go_wp2_with fail
  rw [← hw1]
  clear hw1
  have hL := hL1
  clear hL1
  go_loopw [3, 14] (fun v i wr => ∃ (k : Nat) (R : List Sq), k ≤ L.length ∧ i = .int .i64 k ∧ Below g w1 wr ∧ R.length = k ∧ wr.ownsRow g 78 3 v k (flat R) ∧ (k = 0 → v = .slice none 0 0) ∧ R.Perm (L.take k) ∧ (R.map J.swS).Pairwise (fun a b => leB a b = true)) (fun _ i _ => L.length - (intOf i).toNat)
  case atStart => exact ⟨0, [], Nat.zero_le _, rfl, Below.refl _ _, rfl, World.ownsRow_nil _ _ _ _, fun _ => rfl, by simp, List.Pairwise.nil⟩
  case round =>
    obtain ⟨k, R, hk, rfl, hbr, hRl, hown, hnl, hp, hs⟩ := hrel
    have hgr : g ≤ wr.heap.size := by have := hbr.size; rw [hBg.out]; exact this
    by_cases hlt : k < L.length
    · obtain ⟨s, hsk⟩ : ∃ s, L[k]? = some s := ⟨_, List.getElem?_eq_getElem hlt⟩
      obtain ⟨b, off, rfl, hb, c0, c1, c2⟩ := (hL.below hbr) k s hsk
      rcases Nat.eq_zero_or_pos k with hk0 | hk0
      · have hv := hnl hk0
        subst hv
        subst hk0
        have hR : R = [] := List.eq_nil_of_length_eq_zero hRl
        subst hR
        have HK := Lib.hid hsk
        clear hp hs hsk hRl hL hnl hown
        simp only [Nat.zero_mul, Nat.add_zero] at c0 c1 c2
        go_wp2_with fail
        obtain ⟨W1, hW1⟩ : ∃ W1, W1 = wr.alloc (.cells #[.int .i64 s.x, .int .i64 s.y, .int .i64 s.d] 78) := ⟨_, rfl⟩
        have hB1 : Below wr.heap.size wr W1 := by rw [hW1]; exact (Below.refl _ _).alloc (Nat.le_refl _) _
        have f0 : W1.cell? ⟨wr.heap.size, 0, none⟩ = some (.int .i64 s.x) := by rw [hW1]; simp
        have f1 : W1.cell? ⟨wr.heap.size, 1, none⟩ = some (.int .i64 s.y) := by rw [hW1]; simp
        have f2 : W1.cell? ⟨wr.heap.size, 2, none⟩ = some (.int .i64 s.d) := by rw [hW1]; simp
        have hz1' : wr.heap.size < W1.heap.size := by rw [hW1]; simp
        rw [← hW1]
        clear hW1 c0 c1 c2
        refine wp_loop_rounds 1 ?_
        rw [rounds_succ]
        go_wp2_with fail
        refine wp_region_sub W1.heap.size (by kernel_rfl) (by kernel_rfl) ?_
        repeat (first | go_big_quiet_step (fail) | quiet_step (fail))
        refine wpQuiet_nil ?_
        rintro w2 ⟨uu, hu⟩; have hb2 := uu.ok; rw [← hu] at hb2; clear hu uu
        have f0 := (hb2.cell (p := ⟨wr.heap.size, 0, none⟩) hz1').trans f0
        have f1 := (hb2.cell (p := ⟨wr.heap.size, 1, none⟩) hz1').trans f1
        have f2 := (hb2.cell (p := ⟨wr.heap.size, 2, none⟩) hz1').trans f2
        have hz2 : wr.heap.size < w2.heap.size := by have := hb2.size; omega
        have hB2 := (hbr.trans (hB1.mono hgr)).trans (hb2.mono (by omega))
        have hbg : g ≤ w2.heap.size := by omega
        clear hB1 hb2 hz1'
        go_wp2_with fail
        go_region_law (first
              | (refine app_step rfl (.tmp 57) (.tmp 60) _ rfl g 78 i0 (.agg #[.int .i64 0, .int .i64 0, .int .i64 0]) 3 24 Try.underlying28 hi hz0 hz1 hz2' rfl (by decide) (.slice (some ⟨w2.heap.size, 0, none⟩) 0 0) 0 [] rfl (((World.ownsRow_lit w2 #[] 0 hbg (Nat.zero_le _) rfl).alloc _).drew) none 0 0 [] rfl rfl (.inl ⟨rfl, rfl, rfl, rfl⟩) (fun u hu => by simp at hu) (by simp) (by simp) (by simp; omega) ?_
                 intro v1 w3 hown3 hgrow hat
                 have hb3 : Below w2.heap.size w2 w3 := ((((Below.refl _ w2).alloc (Nat.le_refl _) _).alloc (by simp) _).drew).grown hgrow (by simp; try omega) (fun kk hkk => by simp [Value.ownBlock] at hkk; omega)
                 have hv1 : ∀ kk, v1.ownBlock = some kk → w2.heap.size ≤ kk := fun kk hkk => by rcases hat with h | h <;> (rw [h] at hkk; simp [Value.ownBlock] at hkk; omega)
                 have z0 := hgrow.cell (a := ⟨w2.heap.size + 1, 0, none⟩) (v := .int .i64 s.x) (by simp [go_sem]) (by simp [Value.ownBlock])
                 have z1 := hgrow.cell (a := ⟨w2.heap.size + 1, 1, none⟩) (v := .int .i64 s.y) (by simp [go_sem]) (by simp [Value.ownBlock])
                 have z2 := hgrow.cell (a := ⟨w2.heap.size + 1, 2, none⟩) (v := .int .i64 s.d) (by simp [go_sem]) (by simp [Value.ownBlock])
                 have y0 := (hb3.cell (p := ⟨wr.heap.size, 0, none⟩) hz2).trans f0
                 have y1 := (hb3.cell (p := ⟨wr.heap.size, 1, none⟩) hz2).trans f1
                 have y2 := (hb3.cell (p := ⟨wr.heap.size, 2, none⟩) hz2).trans f2
                 have hs3 := hb3.size
                 simp only [List.append_nil, Nat.zero_add] at hown3
                 clear hgrow hat)
              | (refine app_step rfl (.tmp 57) (.tmp 60) _ rfl g 78 i0 (.agg #[.int .i64 0, .int .i64 0, .int .i64 0]) 3 24 Try.underlying28 hi hz0 hz1 hz2' rfl (by decide) (.slice (some ⟨w2.heap.size + 1, 0, none⟩) 0 0) 0 [] rfl ((lit2 w2 hbg).drew) none 0 0 [] rfl rfl (.inl ⟨rfl, rfl, rfl, rfl⟩) (fun u hu => by simp at hu) (by simp) (by simp) (by simp; omega) ?_
                 intro v1 w3 hown3 hgrow hat
                 have hb3 : Below w2.heap.size w2 w3 := ((((Below.refl _ w2).alloc (Nat.le_refl _) _).alloc (by simp) _).drew).grown hgrow (by simp; try omega) (fun kk hkk => by simp [Value.ownBlock] at hkk; omega)
                 have hv1 : ∀ kk, v1.ownBlock = some kk → w2.heap.size ≤ kk := fun kk hkk => by rcases hat with h | h <;> (rw [h] at hkk; simp [Value.ownBlock] at hkk; omega)
                 have z0 := hgrow.cell (a := ⟨w2.heap.size, 0, none⟩) (v := .int .i64 s.x) (by simp [go_sem]) (by simp [Value.ownBlock])
                 have z1 := hgrow.cell (a := ⟨w2.heap.size, 1, none⟩) (v := .int .i64 s.y) (by simp [go_sem]) (by simp [Value.ownBlock])
                 have z2 := hgrow.cell (a := ⟨w2.heap.size, 2, none⟩) (v := .int .i64 s.d) (by simp [go_sem]) (by simp [Value.ownBlock])
                 have y0 := (hb3.cell (p := ⟨wr.heap.size, 0, none⟩) hz2).trans f0
                 have y1 := (hb3.cell (p := ⟨wr.heap.size, 1, none⟩) hz2).trans f1
                 have y2 := (hb3.cell (p := ⟨wr.heap.size, 2, none⟩) hz2).trans f2
                 have hs3 := hb3.size
                 simp only [List.append_nil, Nat.zero_add] at hown3
                 clear hgrow hat)
              | (refine app_step rfl (.tmp 57) (.tmp 60) _ rfl g 78 i0 (.agg #[.int .i64 0, .int .i64 0, .int .i64 0]) 3 24 Try.underlying28 hi hz0 hz1 hz2' rfl (by decide) (.slice (some ⟨w2.heap.size, 0, none⟩) 0 0) 0 [] rfl ((World.ownsRow_lit w2 #[] 0 hbg (Nat.zero_le _) rfl).drew) none 0 0 [] rfl rfl (.inl ⟨rfl, rfl, rfl, rfl⟩) (fun u hu => by simp at hu) (by simp) (by simp) (by simp; omega) ?_
                 intro v1 w3 hown3 hgrow hat
                 have hb3 : Below w2.heap.size w2 w3 := (((Below.refl _ w2).alloc (Nat.le_refl _) _).drew).grown hgrow (by simp; try omega) (fun kk hkk => by simp [Value.ownBlock] at hkk; omega)
                 have hv1 : ∀ kk, v1.ownBlock = some kk → w2.heap.size ≤ kk := fun kk hkk => by rcases hat with h | h <;> (rw [h] at hkk; simp [Value.ownBlock] at hkk; omega)
                 have y0 := (hb3.cell (p := ⟨wr.heap.size, 0, none⟩) hz2).trans f0
                 have y1 := (hb3.cell (p := ⟨wr.heap.size, 1, none⟩) hz2).trans f1
                 have y2 := (hb3.cell (p := ⟨wr.heap.size, 2, none⟩) hz2).trans f2
                 have hs3 := hb3.size
                 simp only [List.append_nil, Nat.zero_add] at hown3
                 clear hgrow hat)
              | (refine app_step rfl (.tmp 61) (.tmp 63) _ rfl g 78 i0 (.agg #[.int .i64 0, .int .i64 0, .int .i64 0]) 3 24 Try.underlying28 hi hz0 hz1 hz2' rfl (by decide) _ 0 [] rfl (by first | exact hown3 | exact hown3.alloc _) _ 1 1 [.int .i64 s.x, .int .i64 s.y, .int .i64 s.d] rfl rfl (.inr ⟨_, rfl, by first | exact new3 _ _ _ _ _ | exact src3 z0 z1 z2⟩) (one3 _ _ _) (app_room (Nat.zero_le _) (by decide)).1 (app_room (Nat.zero_le _) (by decide)).2 (by first | omega | (simp; omega)) ?_
                 intro v2 w4 hown4 hgrow4 hat4
                 have hb4 : Below w2.heap.size w2 w4 := by first | exact hb3.grown hgrow4 hs3 hv1 | exact (hb3.alloc hs3 _).grown hgrow4 (by simp; omega) hv1
                 clear hgrow4 hat4))
        all_goals
          have hs4 := hb4.size
          clear y0 y1 y2 f0 f1 f2
          go_wp2_with (at_builtin; refine wpList_append_own_none rfl (.tmp 65) (.tmp 68) _ rfl g 78 i0 3 Try.underlying28 hi v2 1 _ rfl hown4 rfl ?_)
          go_roundw
          case rel => exact ⟨1, [s], by omega, by go_num, hB2.trans (hb4.mono hbg), rfl, by simpa [flat] using hown4, fun h => by omega, by rw [List.take_add_one, HK.out]; simp, by simp⟩
          case measure => simp [intOf]; omega
      obtain ⟨A6, c6, rfl⟩ := own_val hown
      obtain ⟨g6, rfl⟩ := own_form hown hk0
      clear hnl
      have hcap := own_cap hown
      have HP := Lib.hid hp
      have HS := Lib.hid hs
      have HK := Lib.hid hsk
      have HR := Lib.hid hRl
      clear hp hs hsk hRl hL
      go_wp2_with fail
      obtain ⟨wo, rfl⟩ : ∃ wo : World, wo = wr := ⟨_, rfl⟩
      obtain ⟨W1, hW1⟩ : ∃ W1, W1 = wo.alloc (.cells #[.int .i64 s.x, .int .i64 s.y, .int .i64 s.d] 78) := ⟨_, rfl⟩
      have hsz : wo.heap.size + 1 = W1.heap.size := by rw [hW1]; simp
      have hB1 : Below wo.heap.size wo W1 := by rw [hW1]; exact (Below.refl _ _).alloc (Nat.le_refl _) _
      have S0 : W1.cell? ⟨wo.heap.size, 0, none⟩ = some (.int .i64 s.x) := by rw [hW1]; simp
      have S1 : W1.cell? ⟨wo.heap.size, 1, none⟩ = some (.int .i64 s.y) := by rw [hW1]; simp
      have S2 : W1.cell? ⟨wo.heap.size, 2, none⟩ = some (.int .i64 s.d) := by rw [hW1]; simp
      have hown1 := own_keep hown hB1
      rw [← hW1]
      clear hW1 c0 c1 c2
      go_loopw [6] (fun kv wi => ∃ m : Nat, m ≤ k ∧ kv = .int .i64 m ∧ Below (wo.heap.size + 1) W1 wi ∧ (∀ (j : Nat) q, m ≤ j → R[j]? = some q → lt2 (J.swS s) (J.swS q))) (fun kv _ => (intOf kv).toNat)
      case atStart => exact ⟨k, Nat.le_refl _, rfl, Below.refl _ _, fun j q hj hq => by rw [List.getElem?_eq_none (by have := HR.out; omega)] at hq; cases hq⟩
      case round =>
        obtain ⟨m, hm, rfl, hbi, hin⟩ := hrel
        have hIn := Lib.hid hin
        clear hin
        have howni := own_below hown1 hbi (fun kk hkk => by have := (hown.lt kk hkk).2; omega)
        have F0 := (hbi.cell (p := ⟨wo.heap.size, 0, none⟩) (Nat.lt_succ_self _)).trans S0
        have F1 := (hbi.cell (p := ⟨wo.heap.size, 1, none⟩) (Nat.lt_succ_self _)).trans S1
        have F2 := (hbi.cell (p := ⟨wo.heap.size, 2, none⟩) (Nat.lt_succ_self _)).trans S2
        have hzi : wo.heap.size < wr.heap.size := by have := hbi.size; omega
        by_cases hgo : 0 < m ∧ ∀ q, R[m - 1]? = some q → lt2 (J.swS s) (J.swS q)
        · obtain ⟨h0, hall⟩ := hgo
          obtain ⟨q, hq⟩ : ∃ q, R[m - 1]? = some q := ⟨_, List.getElem?_eq_getElem (by have := HR.out; omega)⟩
          have hyes := hall q hq
          clear hall
          have hfq := flat_get R (m - 1) q hq
          have hg6 := (howni.lt g6 rfl).2
          have hg6' := (hown.lt g6 rfl).2
          have Q : ∀ j v, j < k * 3 → (flat R)[j]? = some v → ∀ u : Later (wo.heap.size + 1) wr, u.val.cell? ⟨g6, j, none⟩ = some v := fun j v hj hv u => (u.ok.cell (p := ⟨g6, j, none⟩) (by show g6 < _; omega)).trans ((howni.cellAt j hj).trans hv)
          have Q0 := Q _ _ (by omega) hfq.1
          have Q1 := Q _ _ (by omega) hfq.2.1
          have Q2 := Q _ _ (by omega) hfq.2.2
          have G : ∀ j v, wr.cell? ⟨wo.heap.size, j, none⟩ = some v → ∀ u : Later (wo.heap.size + 1) wr, u.val.cell? ⟨wo.heap.size, j, none⟩ = some v := fun j v hv u => (u.ok.cell (p := ⟨wo.heap.size, j, none⟩) (Nat.lt_succ_self _)).trans hv
          have G0 := G 0 _ F0
          have G1 := G 1 _ F1
          have G2 := G 2 _ F2
          rcases hyes with hA | ⟨hB, hC⟩
          · dsimp only [J.swS] at hA
            have hyes : lt2 (J.swS s) (J.swS q) := .inl hA
            have HYES := Lib.hid hyes
            have d1 : decide (s.x < q.x) = true := by rw [decide_eq_true_iff]; exact hA
            have d2 := d1
            have d3 := d1
            clear hA hyes
            have e1 : IntKind.i64.wrap ((m : Int) - 1) = (m : Int) - 1 := IntWalk.i64_in _ (by omega)
            have e2 : (0 : Int) ≤ (m : Int) - 1 := by omega
            have e2' : (1 : Int) ≤ (m : Int) := by omega
            have e3 : ((m : Int) - 1).toNat = m - 1 := by omega
            have e4 : (m : Int) - 1 < (k : Int) := by omega
            have hd : decide ((0 : Int) < (m : Int)) = true := by rw [decide_eq_true_iff]; omega
            have HQ := Lib.hid hq
            clear hq hfq Q G
            go_wp2_with fail
            refine wp_region_sub (wo.heap.size + 1) (by kernel_rfl) (by kernel_rfl) ?_
            repeat (first | go_big_quiet_step (fail) | quiet_step (fail))
            refine wpQuiet_nil ?_
            rintro w2 ⟨uu, hu⟩; have hb2 := uu.ok; rw [← hu] at hb2; clear hu uu hd d1 d2 d3 Q0 Q1 Q2 G0 G1 G2 e1
            go_wp2_with fail
            go_roundw
            case rel =>
              refine ⟨m - 1, by omega, ?_, hbi.trans hb2, fun j q' hj hq' => ?_⟩
              · congr 1; omega
              · by_cases e : j = m - 1
                · subst e
                  obtain rfl := Option.some.inj (HQ.out.symm.trans hq')
                  exact HYES.out
                · exact hIn.out j q' (by omega) hq'
            case measure => simp [intOf]; omega
          · dsimp only [J.swS] at hB hC
            have hyes : lt2 (J.swS s) (J.swS q) := .inr ⟨hB, hC⟩
            have HYES := Lib.hid hyes
            have d1 : decide (s.x < q.x) = false := by rw [decide_eq_false_iff_not]; omega
            have d2 : (s.x == q.x) = true := by rw [beq_iff_eq]; exact hB
            have d3 : decide (s.y < q.y) = true := by rw [decide_eq_true_iff]; exact hC
            clear hB hC hyes
            have e1 : IntKind.i64.wrap ((m : Int) - 1) = (m : Int) - 1 := IntWalk.i64_in _ (by omega)
            have e2 : (0 : Int) ≤ (m : Int) - 1 := by omega
            have e2' : (1 : Int) ≤ (m : Int) := by omega
            have e3 : ((m : Int) - 1).toNat = m - 1 := by omega
            have e4 : (m : Int) - 1 < (k : Int) := by omega
            have hd : decide ((0 : Int) < (m : Int)) = true := by rw [decide_eq_true_iff]; omega
            have HQ := Lib.hid hq
            clear hq hfq Q G
            go_wp2_with fail
            refine wp_region_sub (wo.heap.size + 1) (by kernel_rfl) (by kernel_rfl) ?_
            repeat (first | go_big_quiet_step (fail) | quiet_step (fail))
            refine wpQuiet_nil ?_
            rintro w2 ⟨uu, hu⟩; have hb2 := uu.ok; rw [← hu] at hb2; clear hu uu hd d1 d2 d3 Q0 Q1 Q2 G0 G1 G2 e1
            go_wp2_with fail
            go_roundw
            case rel =>
              refine ⟨m - 1, by omega, ?_, hbi.trans hb2, fun j q' hj hq' => ?_⟩
              · congr 1; omega
              · by_cases e : j = m - 1
                · subst e
                  obtain rfl := Option.some.inj (HQ.out.symm.trans hq')
                  exact HYES.out
                · exact hIn.out j q' (by omega) hq'
            case measure => simp [intOf]; omega
        · have hst : ∀ q, 0 < m → R[m - 1]? = some q → ¬ lt2 (J.swS s) (J.swS q) := by
            intro q h0 hq hl
            exact hgo ⟨h0, fun q' hq' => by rw [hq] at hq'; cases hq'; exact hl⟩
          have HST := Lib.hid hst
          clear hst hgo
          have hcs : m = 0 ∨ (∃ q, 0 < m ∧ R[m - 1]? = some q ∧ q.x < s.x) ∨ (∃ q, 0 < m ∧ R[m - 1]? = some q ∧ s.x = q.x ∧ ¬ s.y < q.y) := by
            rcases Nat.eq_zero_or_pos m with h0 | h0
            · exact .inl h0
            · obtain ⟨q, hq⟩ : ∃ q, R[m - 1]? = some q := ⟨_, List.getElem?_eq_getElem (by have := HR.out; omega)⟩
              have hno := HST.out q h0 hq
              unfold lt2 Less at hno
              dsimp only [J.swS] at hno
              by_cases h1 : q.x < s.x
              · exact .inr (.inl ⟨q, h0, hq, h1⟩)
              · exact .inr (.inr ⟨q, h0, hq, by omega, by omega⟩)
          rcases hcs with h0 | ⟨q, h0, hq, hA⟩ | ⟨q, h0, hq, hB, hC⟩
          case' inl =>
            have hd : decide ((0 : Int) < (m : Int)) = false := by rw [decide_eq_false_iff_not]; omega
            have hdN : decide (0 < m) = false := by rw [decide_eq_false_iff_not]; omega
            have h00 := Lib.hid h0
            clear h0
            go_wp2_with fail
            refine wp_region_sub (wo.heap.size + 1) (by kernel_rfl) (by kernel_rfl) ?_
            repeat (first | go_big_quiet_step (fail) | quiet_step (fail))
            refine wpQuiet_nil ?_
            rintro w2 ⟨uu, hu⟩; have hb2 := uu.ok; rw [← hu] at hb2; clear hu uu hd hdN
          case' inr.inl =>
            have hfq := flat_get R (m - 1) q hq
            have hg6 := (howni.lt g6 rfl).2
            have hg6' := (hown.lt g6 rfl).2
            have Q : ∀ j v, j < k * 3 → (flat R)[j]? = some v → ∀ u : Later (wo.heap.size + 1) wr, u.val.cell? ⟨g6, j, none⟩ = some v := fun j v hj hv u => (u.ok.cell (p := ⟨g6, j, none⟩) (by show g6 < _; omega)).trans ((howni.cellAt j hj).trans hv)
            have Q0 := Q _ _ (by omega) hfq.1
            have Q1 := Q _ _ (by omega) hfq.2.1
            have Q2 := Q _ _ (by omega) hfq.2.2
            have G : ∀ j v, wr.cell? ⟨wo.heap.size, j, none⟩ = some v → ∀ u : Later (wo.heap.size + 1) wr, u.val.cell? ⟨wo.heap.size, j, none⟩ = some v := fun j v hv u => (u.ok.cell (p := ⟨wo.heap.size, j, none⟩) (Nat.lt_succ_self _)).trans hv
            have G0 := G 0 _ F0
            have G1 := G 1 _ F1
            have G2 := G 2 _ F2
            have d1 : decide (s.x < q.x) = false := by rw [decide_eq_false_iff_not]; omega
            have d2 : (s.x == q.x) = false := by rw [beq_eq_false_iff_ne]; omega
            have d3 := d1
            clear hA
            have e1 : IntKind.i64.wrap ((m : Int) - 1) = (m : Int) - 1 := IntWalk.i64_in _ (by omega)
            have e2 : (0 : Int) ≤ (m : Int) - 1 := by omega
            have e2' : (1 : Int) ≤ (m : Int) := by omega
            have e3 : ((m : Int) - 1).toNat = m - 1 := by omega
            have e4 : (m : Int) - 1 < (k : Int) := by omega
            have hd : decide ((0 : Int) < (m : Int)) = true := by rw [decide_eq_true_iff]; omega
            have HQ := Lib.hid hq
            clear hq hfq Q G
            go_wp2_with fail
            refine wp_region_sub (wo.heap.size + 1) (by kernel_rfl) (by kernel_rfl) ?_
            repeat (first | go_big_quiet_step (fail) | quiet_step (fail))
            refine wpQuiet_nil ?_
            rintro w2 ⟨uu, hu⟩; have hb2 := uu.ok; rw [← hu] at hb2; clear hu uu e1 e2 e2' e3 e4 hd d1 d2 d3 Q0 Q1 Q2 G0 G1 G2
          case' inr.inr =>
            have hfq := flat_get R (m - 1) q hq
            have hg6 := (howni.lt g6 rfl).2
            have hg6' := (hown.lt g6 rfl).2
            have Q : ∀ j v, j < k * 3 → (flat R)[j]? = some v → ∀ u : Later (wo.heap.size + 1) wr, u.val.cell? ⟨g6, j, none⟩ = some v := fun j v hj hv u => (u.ok.cell (p := ⟨g6, j, none⟩) (by show g6 < _; omega)).trans ((howni.cellAt j hj).trans hv)
            have Q0 := Q _ _ (by omega) hfq.1
            have Q1 := Q _ _ (by omega) hfq.2.1
            have Q2 := Q _ _ (by omega) hfq.2.2
            have G : ∀ j v, wr.cell? ⟨wo.heap.size, j, none⟩ = some v → ∀ u : Later (wo.heap.size + 1) wr, u.val.cell? ⟨wo.heap.size, j, none⟩ = some v := fun j v hv u => (u.ok.cell (p := ⟨wo.heap.size, j, none⟩) (Nat.lt_succ_self _)).trans hv
            have G0 := G 0 _ F0
            have G1 := G 1 _ F1
            have G2 := G 2 _ F2
            have d1 : decide (s.x < q.x) = false := by rw [decide_eq_false_iff_not]; omega
            have d2 : (s.x == q.x) = true := by rw [beq_iff_eq]; exact hB
            have d3 : decide (s.y < q.y) = false := by rw [decide_eq_false_iff_not]; exact hC
            clear hB hC
            have e1 : IntKind.i64.wrap ((m : Int) - 1) = (m : Int) - 1 := IntWalk.i64_in _ (by omega)
            have e2 : (0 : Int) ≤ (m : Int) - 1 := by omega
            have e2' : (1 : Int) ≤ (m : Int) := by omega
            have e3 : ((m : Int) - 1).toNat = m - 1 := by omega
            have e4 : (m : Int) - 1 < (k : Int) := by omega
            have hd : decide ((0 : Int) < (m : Int)) = true := by rw [decide_eq_true_iff]; omega
            have HQ := Lib.hid hq
            clear hq hfq Q G
            go_wp2_with fail
            refine wp_region_sub (wo.heap.size + 1) (by kernel_rfl) (by kernel_rfl) ?_
            repeat (first | go_big_quiet_step (fail) | quiet_step (fail))
            refine wpQuiet_nil ?_
            rintro w2 ⟨uu, hu⟩; have hb2 := uu.ok; rw [← hu] at hb2; clear hu uu e1 e2 e2' e3 e4 hd d1 d2 d3 Q0 Q1 Q2 G0 G1 G2
          all_goals
            have own2 := own_below howni hb2 (fun kk hkk => by have := (howni.lt kk hkk).2; have := (hown.lt kk hkk).2; omega)
            have f0 := (hb2.cell (p := ⟨wo.heap.size, 0, none⟩) (Nat.lt_succ_self _)).trans F0
            have f1 := (hb2.cell (p := ⟨wo.heap.size, 1, none⟩) (Nat.lt_succ_self _)).trans F1
            have f2 := (hb2.cell (p := ⟨wo.heap.size, 2, none⟩) (Nat.lt_succ_self _)).trans F2
            have hz2 : wo.heap.size < w2.heap.size := by have := hb2.size; omega
            have hB2 := (hbr.trans ((hB1.mono hgr).trans (hbi.mono (show g ≤ wo.heap.size + 1 by omega)))).trans (hb2.mono (show g ≤ wo.heap.size + 1 by omega))
            have hgk := fun kk hkk => (hown.lt kk hkk)
            clear F0 F1 F2 S0 S1 S2 hbi hb2 hown1 howni hown hB1
            have hmc : m ≤ c6 := by omega
            have hm30 : m ≤ 30 := by omega
            have m0 : (0 : Int) ≤ (m : Int) := by omega
            have mk : (m : Int) ≤ (k : Int) := by omega
            have hbg : g ≤ w2.heap.size := by omega
            have hgl := Lib.hid hgk
            have hnil : some (⟨g6, 0, none⟩ : Addr) = none → c6 = 0 := fun h => by cases h
            have hlm := Lib.hid (show (flat (R.take m)).length = m * 3 by rw [flat_len, List.length_take, HR.out]; omega)
            clear hgk
            go_wp2_with fail
            go_region_law (first
              | (refine app_step rfl (.tmp 57) (.tmp 60) _ rfl g 78 i0 (.agg #[.int .i64 0, .int .i64 0, .int .i64 0]) 3 24 Try.underlying28 hi hz0 hz1 hz2' rfl (by decide) (.slice (some ⟨w2.heap.size, 0, none⟩) 0 0) 0 [] rfl (((World.ownsRow_lit w2 #[] 0 hbg (Nat.zero_le _) rfl).alloc _).drew) _ m c6 (flat (R.take m)) rfl hlm.out (src_take (((own2.alloc _).alloc _).drew) hm hnil) (flat_one _) (app_room (Nat.zero_le _) hm30).1 (app_room (Nat.zero_le _) hm30).2 (by simp; omega) ?_
                 intro v1 w3 hown3 hgrow hat
                 have hb3 : Below w2.heap.size w2 w3 := ((((Below.refl _ w2).alloc (Nat.le_refl _) _).alloc (by simp) _).drew).grown hgrow (by simp; try omega) (fun kk hkk => by simp [Value.ownBlock] at hkk; omega)
                 have hv1 : ∀ kk, v1.ownBlock = some kk → w2.heap.size ≤ kk := fun kk hkk => by rcases hat with h | h <;> (rw [h] at hkk; simp [Value.ownBlock] at hkk; omega)
                 have z0 := hgrow.cell (a := ⟨w2.heap.size + 1, 0, none⟩) (v := .int .i64 s.x) (by simp [go_sem]) (by simp [Value.ownBlock])
                 have z1 := hgrow.cell (a := ⟨w2.heap.size + 1, 1, none⟩) (v := .int .i64 s.y) (by simp [go_sem]) (by simp [Value.ownBlock])
                 have z2 := hgrow.cell (a := ⟨w2.heap.size + 1, 2, none⟩) (v := .int .i64 s.d) (by simp [go_sem]) (by simp [Value.ownBlock])
                 have y0 := (hb3.cell (p := ⟨wo.heap.size, 0, none⟩) hz2).trans f0
                 have y1 := (hb3.cell (p := ⟨wo.heap.size, 1, none⟩) hz2).trans f1
                 have y2 := (hb3.cell (p := ⟨wo.heap.size, 2, none⟩) hz2).trans f2
                 have hs3 := hb3.size
                 simp only [List.nil_append, Nat.zero_add] at hown3
                 clear hgrow hat)
              | (refine app_step rfl (.tmp 57) (.tmp 60) _ rfl g 78 i0 (.agg #[.int .i64 0, .int .i64 0, .int .i64 0]) 3 24 Try.underlying28 hi hz0 hz1 hz2' rfl (by decide) (.slice (some ⟨w2.heap.size + 1, 0, none⟩) 0 0) 0 [] rfl ((lit2 w2 hbg).drew) _ m c6 (flat (R.take m)) rfl hlm.out (src_take (((own2.alloc _).alloc _).drew) hm hnil) (flat_one _) (app_room (Nat.zero_le _) hm30).1 (app_room (Nat.zero_le _) hm30).2 (by simp; omega) ?_
                 intro v1 w3 hown3 hgrow hat
                 have hb3 : Below w2.heap.size w2 w3 := ((((Below.refl _ w2).alloc (Nat.le_refl _) _).alloc (by simp) _).drew).grown hgrow (by simp; try omega) (fun kk hkk => by simp [Value.ownBlock] at hkk; omega)
                 have hv1 : ∀ kk, v1.ownBlock = some kk → w2.heap.size ≤ kk := fun kk hkk => by rcases hat with h | h <;> (rw [h] at hkk; simp [Value.ownBlock] at hkk; omega)
                 have z0 := hgrow.cell (a := ⟨w2.heap.size, 0, none⟩) (v := .int .i64 s.x) (by simp [go_sem]) (by simp [Value.ownBlock])
                 have z1 := hgrow.cell (a := ⟨w2.heap.size, 1, none⟩) (v := .int .i64 s.y) (by simp [go_sem]) (by simp [Value.ownBlock])
                 have z2 := hgrow.cell (a := ⟨w2.heap.size, 2, none⟩) (v := .int .i64 s.d) (by simp [go_sem]) (by simp [Value.ownBlock])
                 have y0 := (hb3.cell (p := ⟨wo.heap.size, 0, none⟩) hz2).trans f0
                 have y1 := (hb3.cell (p := ⟨wo.heap.size, 1, none⟩) hz2).trans f1
                 have y2 := (hb3.cell (p := ⟨wo.heap.size, 2, none⟩) hz2).trans f2
                 have hs3 := hb3.size
                 simp only [List.nil_append, Nat.zero_add] at hown3
                 clear hgrow hat)
              | (refine app_step rfl (.tmp 57) (.tmp 60) _ rfl g 78 i0 (.agg #[.int .i64 0, .int .i64 0, .int .i64 0]) 3 24 Try.underlying28 hi hz0 hz1 hz2' rfl (by decide) (.slice (some ⟨w2.heap.size, 0, none⟩) 0 0) 0 [] rfl ((World.ownsRow_lit w2 #[] 0 hbg (Nat.zero_le _) rfl).drew) _ m c6 (flat (R.take m)) rfl hlm.out (src_take ((own2.alloc _).drew) hm hnil) (flat_one _) (app_room (Nat.zero_le _) hm30).1 (app_room (Nat.zero_le _) hm30).2 (by simp; omega) ?_
                 intro v1 w3 hown3 hgrow hat
                 have hb3 : Below w2.heap.size w2 w3 := (((Below.refl _ w2).alloc (Nat.le_refl _) _).drew).grown hgrow (by simp; try omega) (fun kk hkk => by simp [Value.ownBlock] at hkk; omega)
                 have hv1 : ∀ kk, v1.ownBlock = some kk → w2.heap.size ≤ kk := fun kk hkk => by rcases hat with h | h <;> (rw [h] at hkk; simp [Value.ownBlock] at hkk; omega)
                 have y0 := (hb3.cell (p := ⟨wo.heap.size, 0, none⟩) hz2).trans f0
                 have y1 := (hb3.cell (p := ⟨wo.heap.size, 1, none⟩) hz2).trans f1
                 have y2 := (hb3.cell (p := ⟨wo.heap.size, 2, none⟩) hz2).trans f2
                 have hs3 := hb3.size
                 simp only [List.nil_append, Nat.zero_add] at hown3
                 clear hgrow hat)
              | (refine app_step rfl (.tmp 61) (.tmp 63) _ rfl g 78 i0 (.agg #[.int .i64 0, .int .i64 0, .int .i64 0]) 3 24 Try.underlying28 hi hz0 hz1 hz2' rfl (by decide) _ m (flat (R.take m)) rfl (by first | exact hown3 | exact hown3.alloc _) _ 1 1 [.int .i64 s.x, .int .i64 s.y, .int .i64 s.d] rfl rfl (.inr ⟨_, rfl, by first | exact new3 _ _ _ _ _ | exact src3 z0 z1 z2⟩) (one3 _ _ _) (app_room hm30 (by decide)).1 (app_room hm30 (by decide)).2 (by first | omega | (simp; omega)) ?_
                 intro v2 w4 hown4 hgrow4 hat4
                 have hb4 : Below w2.heap.size w2 w4 := by first | exact hb3.grown hgrow4 hs3 hv1 | exact (hb3.alloc hs3 _).grown hgrow4 (by simp; omega) hv1
                 clear hgrow4 hat4))
            all_goals
              have hld : (flat (R.drop m)).length = (k - m) * 3 := by rw [flat_len, List.length_drop, HR.out]
              have HLD := Lib.hid hld
              have own4 := own_keep own2 hb4
              have hs4 := hb4.size
              have hcap2 := hcap
              clear hld y0 y1 y2 f0 f1 f2 own2
              have fin : ∀ (v3 : Value) (w5 : World), w5.ownsRow g 78 3 v3 (m + 1 + (k - m)) (flat (R.take m) ++ [.int .i64 s.x, .int .i64 s.y, .int .i64 s.d] ++ flat (R.drop m)) → w4.grownBy w5 v2.ownBlock →
                  ∃ (R' : List Sq), k + 1 ≤ L.length ∧ Below g w1 w5 ∧ R'.length = k + 1 ∧ w5.ownsRow g 78 3 v3 (k + 1) (flat R') ∧ R'.Perm (L.take (k + 1)) ∧ (R'.map J.swS).Pairwise (fun a b => leB a b = true) := by
                intro v3 w5 ho hg5
                refine ⟨R.take m ++ s :: R.drop m, by omega, ?_, ?_, ?_, ?_, ?_⟩
                · exact (hB2.trans (hb4.mono hbg)).grown hg5 (by omega) (fun kk hkk => (hown4.lt kk hkk).1)
                · have := (ins_perm R s m).length_eq; rw [this, List.length_cons, HR.out]
                · rw [show m + 1 + (k - m) = k + 1 by omega] at ho
                  rw [flat_app]
                  simpa [flat] using ho
                · refine (ins_perm R s m).trans ((HP.out.cons s).trans ?_)
                  rw [List.take_add_one, HK.out]
                  exact (List.perm_append_singleton s (L.take k)).symm
                · exact ins_pairX HS.out (by rw [HR.out]; exact hm) hIn.out (fun q h q' => HST.out q h q')
              have Fin := Lib.hid fin
              clear fin
              have k1 : (k : Int) ≤ (c6 : Int) := by omega
              by_cases hcm : c6 = m
              · have hsrc : ∀ x, Src w4 (some ⟨g6, 0, none⟩) (k - m) x (flat (R.drop m)) := fun _ => .inr ⟨_, rfl, fun j u hu => by have := (List.getElem?_eq_some_iff.1 hu).1; rw [HLD.out] at this; omega⟩
                go_wp2_with (at_builtin; refine app_list rfl (.tmp 65) (.tmp 68) _ rfl g 78 i0 (.agg #[.int .i64 0, .int .i64 0, .int .i64 0]) 3 24 Try.underlying28 hi hz0 hz1 hz2' rfl (by decide) v2 (m + 1) _ rfl hown4 _ (k - m) _ (flat (R.drop m)) rfl HLD.out (hsrc _) (flat_one _) (app_room (by omega) (by omega)).1 (app_room (by omega) (by omega)).2 (by omega) ?_; intro v3 w5 hown5 hgrow5 _)
                obtain ⟨R', r1, r2, r3, r4, r5, r6⟩ := Fin.out v3 w5 hown5 hgrow5
                go_wp2_with fail
                go_roundw
                case rel => exact ⟨k + 1, R', r1, by go_num, r2, r3, r4, fun h => by omega, r5, r6⟩
                case measure => simp [intOf]; omega
              · have hsrc : ∀ x, Src w4 (some ⟨g6, m * 3, none⟩) (k - m) x (flat (R.drop m)) := by
                  intro x
                  have := src_drop own4 hm hcap2 x
                  rwa [if_neg hcm] at this
                go_wp2_with (at_builtin; refine app_list rfl (.tmp 65) (.tmp 68) _ rfl g 78 i0 (.agg #[.int .i64 0, .int .i64 0, .int .i64 0]) 3 24 Try.underlying28 hi hz0 hz1 hz2' rfl (by decide) v2 (m + 1) _ rfl hown4 _ (k - m) _ (flat (R.drop m)) rfl HLD.out (hsrc _) (flat_one _) (app_room (by omega) (by omega)).1 (app_room (by omega) (by omega)).2 (by omega) ?_; intro v3 w5 hown5 hgrow5 _)
                obtain ⟨R', r1, r2, r3, r4, r5, r6⟩ := Fin.out v3 w5 hown5 hgrow5
                go_wp2_with fail
                go_roundw
                case rel => exact ⟨k + 1, R', r1, by go_num, r2, r3, r4, fun h => by omega, r5, r6⟩
                case measure => simp [intOf]; omega
    · obtain rfl : k = L.length := by omega
      obtain ⟨A6, c6, rfl⟩ := own_val hown
      rw [List.take_length] at hp
      have hRs := sides_sw hp hs HFILL.out
      have HRS := Lib.hid hRs
      have hq := sqs_of_own hown
      have hR30 : L.length ≤ 30 := by omega
      have HRL := Lib.hid hRl
      obtain ⟨wo, rfl⟩ : ∃ wo : World, wo = wr := ⟨_, rfl⟩
      have hBw : Below w.heap.size w wo := hb1.trans (hbr.mono hgw)
      obtain ⟨j0, hj, hy0, hy1, hy2⟩ := info_parts infoInt
      clear hp hs hRs hnl hown hL hRl
      go_wp2_with fail
      go_loopw [8, 73] (fun v i wr => ∃ k : Nat, k ≤ L.length ∧ i = .int .i64 (k : Int) ∧ Below wo.heap.size wo wr ∧ wr.ownsRow wo.heap.size 3 1 v k (ints (sides (R.take k)))) (fun _ i _ => L.length - (intOf i).toNat)
      case atStart => exact ⟨0, Nat.zero_le _, rfl, Below.refl _ _, World.ownsRow_nil _ _ _ _⟩
      case round =>
        obtain ⟨k, hk, rfl, hbr2, hown⟩ := hrel
        have hgs := hbr2.size
        by_cases hlt2 : k < L.length
        · obtain ⟨s, hs⟩ : ∃ s, R[k]? = some s := ⟨_, List.getElem?_eq_getElem (by have := HRL.out; omega)⟩
          obtain ⟨b, off, rfl, hb, c0, c1, c2⟩ := (hq.below hbr2) k s hs
          have HS := Lib.hid hs
          clear hs hq
          go_wp2_with (at_builtin; refine wpList_append_own _ rfl _ _ 44 rfl wo.heap.size 3 j0 (.int .i64 0) 1 8 Try.underlying44 hj hy0 hy1 hy2 rfl (by decide) _ _ _ rfl ((hown.alloc _).alloc _) ⟨wr.heap.size + 1, 0, none⟩ 1 1 [.int .i64 s.d] rfl rfl ?c1 ?c2 ?c3 ?c4 ?c5 ?_)
          case c1 =>
            intro j u hj
            match j, hj with
            | 0, hj => simp at hj; subst hj; simp [Addr.add]
          case c2 => intro u hu; simp at hu; subst hu; rfl
          case c3 => unfold maxLen; omega
          case c4 => omega
          case c5 => simp <;> omega
          intro v' w2 hown2 hgrow _
          have hB2 : Below wo.heap.size wo w2 := ((hbr2.alloc hgs _).alloc (by simp <;> omega) _).grown hgrow (by simp <;> omega) (fun kk hkk => (hown.lt kk hkk).1)
          have HO : Hid (w2.ownsRow wo.heap.size 3 1 v' (k + 1) (ints (sides (R.take (k + 1))))) := by
            show w2.ownsRow _ _ _ _ _ _
            rw [sides_take_succ R k s HS.out, ints_app]
            exact hown2
          clear hown hown2 hgrow
          go_wp2_with fail
          go_roundw
          case rel => exact ⟨k + 1, by omega, by go_num, hB2, HO.out⟩
          case measure => simp [intOf]; omega
        · obtain rfl : k = L.length := by omega
          rw [List.take_of_length_le (by have := HRL.out; omega)] at hown
          obtain ⟨A', c', rfl⟩ := own_val hown
          go_wp2_with fail
          go_ret
          have hB3 := hBw.trans (hbr2.mono hBw.size)
          have hle := hBw.size
          have el : L.length = (sides (srt (J.swL L))).length := by rw [← HRS.out, sides_len]; exact HRL.out.symm
          rw [HRS.out] at hown
          rw [el] at hown
          exact ⟨A', c', by rw [el]; rfl, own_base hown hle, hB3⟩
end Go.Proofs.Ytohajmbgdapnhaa
