/- Contract of the model's PartsOf. -/
import Derived.Test.YtmjdmedlkcmgiaaPartsS
import Derived.Test.YtmjdmedlkcmgiaaOrd
set_option linter.all false
namespace Go.Proofs.Ytmjdmedlkcmgiaa
open Go.RowKit

theorem vals_take (R : List Rw) (k : Nat) : vals (R.take k) = (vals R).take k := by simp [vals, List.map_take]
theorem vals_drop (R : List Rw) (k : Nat) : vals (R.drop k) = (vals R).drop k := by simp [vals, List.map_drop]
theorem srcV_take {w : World} {base : Nat} {g n c m : Nat} {R : List Rw} (h : w.ownsRow base 42 1 (.slice (some ⟨g, 0, none⟩) n c) n (vals R)) (hm : m ≤ n) : Src w (some ⟨g, 0, none⟩) m c (vals (R.take m)) := by
  have hf := h.1
  refine .inr ⟨_, rfl, fun j u hu => ?_⟩
  rw [vals_take, List.getElem?_take] at hu
  split at hu
  · have hj : j < n := by have := (List.getElem?_eq_some_iff.1 hu).1; omega
    rw [add_at, Nat.zero_add, h.cellAt j (by omega)]
    exact hu
  · cases hu
theorem srcV_drop {w : World} {base : Nat} {g n c m : Nat} {R : List Rw} (h : w.ownsRow base 42 1 (.slice (some ⟨g, 0, none⟩) n c) n (vals R)) (hc : c ≠ m) (x : Nat) : Src w (some ⟨g, m, none⟩) (n - m) x (vals (R.drop m)) := by
  have hf := h.1
  refine .inr ⟨_, rfl, fun j u hu => ?_⟩
  rw [vals_drop, List.getElem?_drop] at hu
  have hj : m + j < n := by have := (List.getElem?_eq_some_iff.1 hu).1; omega
  rw [add_at, h.cellAt _ (by omega)]
  exact hu
theorem roomV {n m : Nat} (h : n ≤ 1000) (k : m ≤ 1000) : n + m ≤ maxLen ∧ (n + m) * 24 ≤ 140737488355328 := ⟨by unfold maxLen; omega, by omega⟩

set_option maxRecDepth 100000 in
set_option maxHeartbeats 16000000 in
theorem specParts_any (W H : Int) (A : Option Addr) (n c : Nat) (L : List Sq) (w : World) (hl : L.length = n) (hc : n ≤ c) (hL : SqsAt w w.heap.size A L) :
    Calls Try.prog 49 #[.agg #[.int .i64 W, .int .i64 H, .slice A n c]] w (RetSS w (ifGood W H L (srtL (allP W H L L.length))) (dc (Good W H L))) := by
  subst hl
  obtain ⟨j0, hj, hy0, hy1, hy2⟩ := info_parts infoSl
  have hb0 : ∀ o : Obj, Below w.heap.size w (w.alloc o) := fun o => (Below.refl _ _).alloc (Nat.le_refl _) o
  have Z0 : Box w.heap.size w (w.alloc (.cells #[.int .i64 W, .int .i64 H, .slice A L.length c] 31)) W H A c L := Box.start hL
  by_cases hG : Good W H L
  · rw [ifGood_yes hG, dc_true hG]
    have hg30 := hG.2.2.1.2
    go_enter Try.func49, Try.ntmps49
    go_wp2_with fail
    refine (callB_yes (cuGood_any W H A _ c L _ rfl hc ((hL.below (hb0 _)).mono (hb0 _).size)) hG).mono ?_
    rintro e w1 ⟨rfl, hb1⟩
    have Z1 := Z0.next hb1
    obtain ⟨hB1, hz1, b0, b1, b2, hL1⟩ := id Z1
    clear Z0 hb1 hb0
    go_wp2_with fail
    refine (cuParts_any W H A L.length c L _ rfl hc (hL1.mono hB1.size) hG).mono ?_
    rintro e w2 ⟨A2, c2, R0, rfl, hM, hS0, hb2⟩
    have hB2 := hB1.trans (hb2.mono hB1.size)
    have hw12 : w1.heap.size ≤ w2.heap.size := hb2.size
    have hml := allP_len W H L L.length
    have hm9 := Nat.mul_le_mul hg30 hg30
    have hmem : ∀ r ∈ R0, r.L.length ≤ 30 := fun r hr => by
      have h1 : r.L ∈ lists R0 := List.mem_map.2 ⟨r, hr, rfl⟩
      rw [hM] at h1
      have := allP_mem_len h1
      omega
    obtain ⟨m0, hm0⟩ : ∃ m, (allP W H L L.length).length = m := ⟨_, rfl⟩
    rw [hm0] at hS0 hml ⊢
    have hm900 : m0 ≤ 900 := by omega
    have HM := Lib.hid hM
    have hlR := hS0.len
    have HLR := Lib.hid hlR
    have HMEM := Lib.hid hmem
    obtain ⟨g, hg⟩ : ∃ g, g = w2.heap.size := ⟨_, rfl⟩
    have hBg := Lib.hid hg
    clear hM hm0 hlR hmem hm9 hml b0 b1 b2 hL1 Z1 hL hb2 hG hg
    go_wp2_with fail
    go_loopw [4, 15] (fun v i wr => ∃ (k : Nat) (R : List Rw), k ≤ m0 ∧ i = .int .i64 k ∧ R.length = k ∧ Below g w2 wr ∧ wr.ownsRow g 42 1 v k (vals R) ∧ (k = 0 → v = .slice none 0 0) ∧ R.Perm (R0.take k) ∧ R.Pairwise (fun a b => leL a.L b.L = true)) (fun _ i _ => m0 - (intOf i).toNat)
    case atStart => exact ⟨0, [], Nat.zero_le _, rfl, rfl, Below.refl _ _, World.ownsRow_nil _ _ _ _, fun _ => rfl, by simp, List.Pairwise.nil⟩
    case round =>
      obtain ⟨k, R, hk, rfl, hRl, hbr, hown, hnl, hp, hs⟩ := hrel
      have hgr : g ≤ wr.heap.size := by have := hbr.size; rw [hBg.out]; exact this
      by_cases hlt : k < m0
      · have hkR : k < R0.length := by have := HLR.out; omega
        obtain ⟨r, hr⟩ : ∃ r, R0[k]? = some r := ⟨_, List.getElem?_eq_getElem hkR⟩
        have hrm := List.mem_of_getElem? hr
        have hr30 := HMEM.out r hrm
        obtain ⟨g2, rfl⟩ := own_form hS0.outer (by omega)
        have hg2 : g2 < g := by rw [hBg.out]; exact (own_lt hS0.outer).2
        have rc : wr.cell? ⟨g2, k, none⟩ = some (.slice r.A r.L.length r.c) := by
          rw [hbr.cell (p := ⟨g2, k, none⟩) hg2, hS0.outer.cellAt k (by omega)]
          simp [vals, hr, Rw.val]
        have hS0g : ∀ x, Below g w2 x → OwnSS x w1.heap.size (some ⟨g2, 0, none⟩) m0 c2 R0 := fun x hx => hS0.keep (hx.mono (by rw [hBg.out]; exact Nat.le_refl _))
        have HS0 := Lib.hid hS0g
        have HK := Lib.hid hr
        have HP := Lib.hid hp
        have HS := Lib.hid hs
        have HR := Lib.hid hRl
        have k0 : (0 : Int) ≤ (k : Int) := by omega
        have k1 : (k : Int) < (m0 : Int) := by omega
        rcases Nat.eq_zero_or_pos k with hk0 | hk0
        · have hv := hnl hk0
          subst hv
          subst hk0
          have hRn : R = [] := List.eq_nil_of_length_eq_zero hRl
          subst hRn
          clear hp hs hr hRl hnl hown hS0 hS0g
          go_wp2_with fail
          refine wp_loop_rounds 1 ?_
          rw [rounds_succ]
          go_wp2_with (first
            | (at_builtin; refine app_list rfl (.tmp 34) (.tmp 37) _ rfl g 42 j0 (.slice none 0 0) 1 24 Try.underlying26 hj hy0 hy1 hy2 rfl (by decide) (.slice (some ⟨wr.heap.size, 0, none⟩) 0 0) 0 [] rfl (World.ownsRow_lit wr #[] 0 hgr (Nat.zero_le _) rfl) none 0 0 [] rfl rfl (.inl ⟨rfl, rfl, rfl, rfl⟩) (fun u hu => by simp at hu) (by simp) (by simp) (by simp; omega) ?_
               intro v1 w3 hown3 hgrow3 _
               have hb3 := ((Below.refl g wr).alloc hgr (.cells #[] 42)).grown hgrow3 (by simp; omega) (fun kk hkk => by simp [Value.ownBlock] at hkk; omega)
               have hs3 : g ≤ w3.heap.size := Nat.le_trans hgr hb3.size
               simp only [List.append_nil, Nat.zero_add] at hown3
               clear hgrow3)
            | (at_builtin; refine app_list rfl (.tmp 38) (.tmp 40) _ rfl g 42 j0 (.slice none 0 0) 1 24 Try.underlying26 hj hy0 hy1 hy2 rfl (by decide) v1 0 [] rfl (hown3.alloc _) (some ⟨w3.heap.size, 0, none⟩) 1 1 [.slice r.A r.L.length r.c] rfl rfl (.inr ⟨_, rfl, new1 _ _ _⟩) (one1 _ rfl) (roomV (by decide) (by decide)).1 (roomV (by decide) (by decide)).2 (by simp; omega) ?_
               intro v2 w4 hown4 hgrow4 _
               have hb4 := (hb3.alloc hs3 _).grown hgrow4 (by simp; omega) (fun kk hkk => (hown3.lt kk hkk).1)
               have hs4 : g ≤ w4.heap.size := Nat.le_trans hgr hb4.size
               clear hgrow4)
            | (at_builtin; refine app_list rfl (.tmp 42) (.tmp 45) _ rfl g 42 j0 (.slice none 0 0) 1 24 Try.underlying26 hj hy0 hy1 hy2 rfl (by decide) v2 (0 + 1) _ rfl hown4 none 0 0 [] rfl rfl (.inl ⟨rfl, rfl, rfl, rfl⟩) (fun u hu => by simp at hu) (roomV (by decide) (by decide)).1 (roomV (by decide) (by decide)).2 hs4 ?_
               intro v3 w5 hown5 hgrow5 _
               have hb5 := hb4.grown hgrow5 hs4 (fun kk hkk => (hown4.lt kk hkk).1)
               clear hgrow5))
          go_roundw
          case rel => exact ⟨1, [r], by omega, by go_num, rfl, hbr.trans hb5, by simpa [vals, Rw.val] using hown5, fun h => by omega, by rw [List.take_add_one, HK.out]; simp, by simp⟩
          case measure => simp [intOf]; omega
        · obtain ⟨A6, c6, rfl⟩ := own_val hown
          obtain ⟨g6, rfl⟩ := own_form hown hk0
          have hcap := own_cap hown
          have hgl := own_lt hown
          clear hnl hp hs hr hRl hS0 hS0g
          go_wp2_with fail
          obtain ⟨wo, rfl⟩ : ∃ wo : World, wo = wr := ⟨_, rfl⟩
          go_loopw [7] (fun kv wi => ∃ m : Nat, m ≤ k ∧ kv = .int .i64 m ∧ Below wo.heap.size wo wi ∧ (∀ (j : Nat) q, m ≤ j → R[j]? = some q → ltL r.L q.L = true)) (fun kv _ => (intOf kv).toNat)
          case atStart => exact ⟨k, Nat.le_refl _, rfl, Below.refl _ _, fun j q hj hq => by rw [List.getElem?_eq_none (by have := HR.out; omega)] at hq; cases hq⟩
          case round =>
            obtain ⟨m, hm, rfl, hbi, hin⟩ := hrel
            have hIn := Lib.hid hin
            clear hin
            have howni := own_keep hown hbi
            have hBi := hbr.trans (hbi.mono hgr)
            have hSi := HS0.out _ hBi
            have hrow := hSi.inner.own r hrm
            have hzi := hbi.size
            have stop : ∀ wz, Below wr.heap.size wr wz → (∀ q, 0 < m → R[m - 1]? = some q → ltL r.L q.L = false) → True := fun _ _ _ => trivial
            clear stop
            rcases Nat.eq_zero_or_pos m with h0 | h0
            · subst h0
              have hst : ∀ q, 0 < 0 → R[0 - 1]? = some q → ltL r.L q.L = false := fun q h => by omega
              have hbg : g ≤ wr.heap.size := Nat.le_trans hgr hzi
              have hlm : (vals (R.take (0))).length = (0) * 1 := by rw [vals_len, List.length_take, HR.out]; omega
              have hld : (vals (R.drop (0))).length = (k - (0)) * 1 := by rw [vals_len, List.length_drop, HR.out]; omega
              have HLM := Lib.hid hlm
              have HLD := Lib.hid hld
              have fin : ∀ (v3 : Value) (w5 : World), w5.ownsRow g 42 1 v3 ((0) + 1 + (k - (0))) (vals (R.take (0)) ++ [.slice r.A r.L.length r.c] ++ vals (R.drop (0))) →
                  ∃ (R' : List Rw), k + 1 ≤ m0 ∧ R'.length = k + 1 ∧ w5.ownsRow g 42 1 v3 (k + 1) (vals R') ∧ R'.Perm (R0.take (k + 1)) ∧ R'.Pairwise (fun a b => leL a.L b.L = true) := by
                intro v3 w5 ho
                refine ⟨R.take (0) ++ r :: R.drop (0), by omega, ?_, ?_, ?_, ?_⟩
                · have := (insL_perm R r (0)).length_eq; rw [this, List.length_cons, HR.out]
                · rw [show (0) + 1 + (k - (0)) = k + 1 by omega] at ho
                  rw [vals_app]
                  simpa [vals, Rw.val] using ho
                · refine (insL_perm R r (0)).trans ((HP.out.cons r).trans ?_)
                  rw [List.take_add_one, HK.out]
                  exact (List.perm_append_singleton r (R0.take k)).symm
                · exact insL_pair HS.out (by rw [HR.out]; exact hm) hIn.out hst
              have Fin := Lib.hid fin
              have mm0 : (0 : Int) ≤ (((0) : Nat) : Int) := by omega
              have mmk : (((0) : Nat) : Int) ≤ (k : Int) := by omega
              have mmc : (((0) : Nat) : Int) ≤ (c6 : Int) := by omega
              have kkc : (k : Int) ≤ (c6 : Int) := by omega
              have hm1000 : (0) ≤ 1000 := by omega
              clear fin hlm hld hst
              by_cases hcm : c6 = 0
              · have HCM := Lib.hid hcm
                clear hcm
                go_wp2_with (first
                  | (at_builtin; refine app_list rfl (.tmp 34) (.tmp 37) _ rfl g 42 j0 (.slice none 0 0) 1 24 Try.underlying26 hj hy0 hy1 hy2 rfl (by decide) (.slice (some ⟨wr.heap.size, 0, none⟩) 0 0) 0 [] rfl (World.ownsRow_lit wr #[] 0 hbg (Nat.zero_le _) rfl) (some ⟨g6, 0, none⟩) (0) c6 (vals (R.take (0))) rfl HLM.out (srcV_take (howni.alloc _) hm) (vals_one _) (roomV (by decide) hm1000).1 (roomV (by decide) hm1000).2 (by simp; omega) ?_
                     intro v1 w3 hown3 hgrow3 hat3
                     have hb3 : Below wr.heap.size wr w3 := ((Below.refl _ wr).alloc (Nat.le_refl _) (.cells #[] 42)).grown hgrow3 (by simp) (fun kk hkk => by simp [Value.ownBlock] at hkk; omega)
                     have hv1 : ∀ kk, v1.ownBlock = some kk → wr.heap.size ≤ kk := fun kk hkk => by rcases hat3 with h | h <;> (rw [h] at hkk; simp [Value.ownBlock] at hkk; omega)
                     have hs3 := hb3.size
                     simp only [List.nil_append, Nat.zero_add] at hown3
                     clear hgrow3 hat3)
                  | (at_builtin; refine app_list rfl (.tmp 38) (.tmp 40) _ rfl g 42 j0 (.slice none 0 0) 1 24 Try.underlying26 hj hy0 hy1 hy2 rfl (by decide) v1 (0) (vals (R.take (0))) rfl (hown3.alloc _) (some ⟨w3.heap.size, 0, none⟩) 1 1 [.slice r.A r.L.length r.c] rfl rfl (.inr ⟨_, rfl, new1 _ _ _⟩) (one1 _ rfl) (roomV hm1000 (by decide)).1 (roomV hm1000 (by decide)).2 (by simp; omega) ?_
                     intro v2 w4 hown4 hgrow4 hat4
                     have hb4 : Below wr.heap.size wr w4 := (hb3.alloc hs3 _).grown hgrow4 (by simp; omega) hv1
                     have own4 := own_keep howni hb4
                     have hs4 : g ≤ w4.heap.size := Nat.le_trans hbg hb4.size
                     have hsrc : ∀ x, Src w4 (some ⟨g6, 0, none⟩) (k - (0)) x (vals (R.drop (0))) := fun _ => .inr ⟨_, rfl, fun j u hu => by have := (List.getElem?_eq_some_iff.1 hu).1; rw [HLD.out] at this; have := HCM.out; omega⟩
                     clear hgrow4 hat4)
                  | (at_builtin; refine app_list rfl (.tmp 42) (.tmp 45) _ rfl g 42 j0 (.slice none 0 0) 1 24 Try.underlying26 hj hy0 hy1 hy2 rfl (by decide) v2 ((0) + 1) _ rfl hown4 _ (k - (0)) _ (vals (R.drop (0))) rfl HLD.out (hsrc _) (vals_one _) (roomV (by omega) (by omega)).1 (roomV (by omega) (by omega)).2 hs4 ?_
                     intro v3 w5 hown5 hgrow5 _
                     have hb5 := (hBi.trans (hb4.mono hbg)).grown hgrow5 hs4 (fun kk hkk => (hown4.lt kk hkk).1)
                     obtain ⟨R', r1, r2, r3, r4, r5⟩ := Fin.out v3 w5 hown5
                     clear hgrow5))
                go_roundw
                case rel => exact ⟨k + 1, R', r1, by go_num, r2, hb5, r3, fun h => by omega, r4, r5⟩
                case measure => simp [intOf]; omega
              · have HCM := Lib.hid hcm
                go_wp2_with (first
                  | (at_builtin; refine app_list rfl (.tmp 34) (.tmp 37) _ rfl g 42 j0 (.slice none 0 0) 1 24 Try.underlying26 hj hy0 hy1 hy2 rfl (by decide) (.slice (some ⟨wr.heap.size, 0, none⟩) 0 0) 0 [] rfl (World.ownsRow_lit wr #[] 0 hbg (Nat.zero_le _) rfl) (some ⟨g6, 0, none⟩) (0) c6 (vals (R.take (0))) rfl HLM.out (srcV_take (howni.alloc _) hm) (vals_one _) (roomV (by decide) hm1000).1 (roomV (by decide) hm1000).2 (by simp; omega) ?_
                     intro v1 w3 hown3 hgrow3 hat3
                     have hb3 : Below wr.heap.size wr w3 := ((Below.refl _ wr).alloc (Nat.le_refl _) (.cells #[] 42)).grown hgrow3 (by simp) (fun kk hkk => by simp [Value.ownBlock] at hkk; omega)
                     have hv1 : ∀ kk, v1.ownBlock = some kk → wr.heap.size ≤ kk := fun kk hkk => by rcases hat3 with h | h <;> (rw [h] at hkk; simp [Value.ownBlock] at hkk; omega)
                     have hs3 := hb3.size
                     simp only [List.nil_append, Nat.zero_add] at hown3
                     clear hgrow3 hat3)
                  | (at_builtin; refine app_list rfl (.tmp 38) (.tmp 40) _ rfl g 42 j0 (.slice none 0 0) 1 24 Try.underlying26 hj hy0 hy1 hy2 rfl (by decide) v1 (0) (vals (R.take (0))) rfl (hown3.alloc _) (some ⟨w3.heap.size, 0, none⟩) 1 1 [.slice r.A r.L.length r.c] rfl rfl (.inr ⟨_, rfl, new1 _ _ _⟩) (one1 _ rfl) (roomV hm1000 (by decide)).1 (roomV hm1000 (by decide)).2 (by simp; omega) ?_
                     intro v2 w4 hown4 hgrow4 hat4
                     have hb4 : Below wr.heap.size wr w4 := (hb3.alloc hs3 _).grown hgrow4 (by simp; omega) hv1
                     have own4 := own_keep howni hb4
                     have hs4 : g ≤ w4.heap.size := Nat.le_trans hbg hb4.size
                     have hsrc : ∀ x, Src w4 (some ⟨g6, 0, none⟩) (k - (0)) x (vals (R.drop (0))) := fun x => srcV_drop own4 HCM.out x
                     clear hgrow4 hat4)
                  | (at_builtin; refine app_list rfl (.tmp 42) (.tmp 45) _ rfl g 42 j0 (.slice none 0 0) 1 24 Try.underlying26 hj hy0 hy1 hy2 rfl (by decide) v2 ((0) + 1) _ rfl hown4 _ (k - (0)) _ (vals (R.drop (0))) rfl HLD.out (hsrc _) (vals_one _) (roomV (by omega) (by omega)).1 (roomV (by omega) (by omega)).2 hs4 ?_
                     intro v3 w5 hown5 hgrow5 _
                     have hb5 := (hBi.trans (hb4.mono hbg)).grown hgrow5 hs4 (fun kk hkk => (hown4.lt kk hkk).1)
                     obtain ⟨R', r1, r2, r3, r4, r5⟩ := Fin.out v3 w5 hown5
                     clear hgrow5))
                go_roundw
                case rel => exact ⟨k + 1, R', r1, by go_num, r2, hb5, r3, fun h => by omega, r4, r5⟩
                case measure => simp [intOf]; omega
            · obtain ⟨m', rfl⟩ : ∃ m', m = m' + 1 := ⟨m - 1, by omega⟩
              obtain ⟨q, hq⟩ : ∃ q, R[m']? = some q := ⟨_, List.getElem?_eq_getElem (by have := HR.out; omega)⟩
              have hqm : q ∈ R0 := List.mem_of_mem_take (HP.out.mem_iff.1 (List.mem_of_getElem? hq))
              have hq30 := HMEM.out q hqm
              have hqrow := hSi.inner.own q hqm
              have qc : wr.cell? ⟨g6, m', none⟩ = some (.slice q.A q.L.length q.c) := by
                rw [howni.cellAt m' (by omega)]
                simp [vals, hq, Rw.val]
              have em : (((m' + 1 : Nat) : Int) - 1) = (m' : Int) := by omega
              have e2 : (0 : Int) ≤ (m' : Int) := by omega
              have e3 : (m' : Int) < (k : Int) := by omega
              have e4 : (0 : Int) < ((m' + 1 : Nat) : Int) := by omega
              have HQ := Lib.hid hq
              have CB := cuBefore_any r.A q.A r.L.length q.L.length r.c q.c r.L q.L wr rfl rfl (by omega) (by omega) (ints_of_own hrow) (ints_of_own hqrow)
              clear hq hSi hrow hqrow
              by_cases hyes : ltL r.L q.L = true
              · rw [hyes] at CB
                go_wp2_with fail
                refine CB.mono ?_
                rintro e wq ⟨rfl, hbq⟩
                clear CB
                go_wp2_with fail
                go_roundw
                case rel => exact ⟨m', by omega, rfl, hbi.trans (hbq.mono hzi), fun j q' hj hq' => by
                  by_cases e : j = m'
                  · subst e
                    obtain rfl := Option.some.inj (HQ.out.symm.trans hq')
                    exact hyes
                  · exact hIn.out j q' (by omega) hq'⟩
                case measure => simp [intOf]
              · have hno : ltL r.L q.L = false := by simpa using hyes
                rw [hno] at CB
                have hst : ∀ q', 0 < m' + 1 → R[m' + 1 - 1]? = some q' → ltL r.L q'.L = false := fun q' _ h => by
                  obtain rfl := Option.some.inj (HQ.out.symm.trans h)
                  exact hno
                have HST := Lib.hid hst
                clear hst hyes hno
                go_wp2_with fail
                refine CB.mono ?_
                rintro e wq ⟨rfl, hbq⟩
                clear CB
                have hst := HST.out
                have howni := own_keep howni hbq
                have hBi := hBi.trans (hbq.mono (Nat.le_trans hgr hzi))
                have hzi := Nat.le_trans hzi hbq.size
                clear hbi hbq qc em e2 e3 e4 HST
                have hbg : g ≤ wq.heap.size := Nat.le_trans hgr hzi
                have hlm : (vals (R.take (m' + 1))).length = (m' + 1) * 1 := by rw [vals_len, List.length_take, HR.out]; omega
                have hld : (vals (R.drop (m' + 1))).length = (k - (m' + 1)) * 1 := by rw [vals_len, List.length_drop, HR.out]; omega
                have HLM := Lib.hid hlm
                have HLD := Lib.hid hld
                have fin : ∀ (v3 : Value) (w5 : World), w5.ownsRow g 42 1 v3 ((m' + 1) + 1 + (k - (m' + 1))) (vals (R.take (m' + 1)) ++ [.slice r.A r.L.length r.c] ++ vals (R.drop (m' + 1))) →
                    ∃ (R' : List Rw), k + 1 ≤ m0 ∧ R'.length = k + 1 ∧ w5.ownsRow g 42 1 v3 (k + 1) (vals R') ∧ R'.Perm (R0.take (k + 1)) ∧ R'.Pairwise (fun a b => leL a.L b.L = true) := by
                  intro v3 w5 ho
                  refine ⟨R.take (m' + 1) ++ r :: R.drop (m' + 1), by omega, ?_, ?_, ?_, ?_⟩
                  · have := (insL_perm R r (m' + 1)).length_eq; rw [this, List.length_cons, HR.out]
                  · rw [show (m' + 1) + 1 + (k - (m' + 1)) = k + 1 by omega] at ho
                    rw [vals_app]
                    simpa [vals, Rw.val] using ho
                  · refine (insL_perm R r (m' + 1)).trans ((HP.out.cons r).trans ?_)
                    rw [List.take_add_one, HK.out]
                    exact (List.perm_append_singleton r (R0.take k)).symm
                  · exact insL_pair HS.out (by rw [HR.out]; exact hm) hIn.out hst
                have Fin := Lib.hid fin
                have mm0 : (0 : Int) ≤ (((m' + 1) : Nat) : Int) := by omega
                have mmk : (((m' + 1) : Nat) : Int) ≤ (k : Int) := by omega
                have mmc : (((m' + 1) : Nat) : Int) ≤ (c6 : Int) := by omega
                have kkc : (k : Int) ≤ (c6 : Int) := by omega
                have hm1000 : (m' + 1) ≤ 1000 := by omega
                have nn0 : (0 : Int) ≤ (m' : Int) + 1 := by omega
                have nnk : (m' : Int) + 1 ≤ (k : Int) := by omega
                have nnc : (m' : Int) + 1 ≤ (c6 : Int) := by omega
                have nnt : ((m' : Int) + 1).toNat = m' + 1 := by omega
                clear fin hlm hld hst
                by_cases hcm : c6 = m' + 1
                · have HCM := Lib.hid hcm
                  clear hcm
                  go_wp2_with (first
                    | (at_builtin; refine app_list rfl (.tmp 34) (.tmp 37) _ rfl g 42 j0 (.slice none 0 0) 1 24 Try.underlying26 hj hy0 hy1 hy2 rfl (by decide) (.slice (some ⟨wq.heap.size, 0, none⟩) 0 0) 0 [] rfl (World.ownsRow_lit wq #[] 0 hbg (Nat.zero_le _) rfl) (some ⟨g6, 0, none⟩) (m' + 1) c6 (vals (R.take (m' + 1))) rfl HLM.out (srcV_take (howni.alloc _) hm) (vals_one _) (roomV (by decide) hm1000).1 (roomV (by decide) hm1000).2 (by simp; omega) ?_
                       intro v1 w3 hown3 hgrow3 hat3
                       have hb3 : Below wq.heap.size wq w3 := ((Below.refl _ wq).alloc (Nat.le_refl _) (.cells #[] 42)).grown hgrow3 (by simp) (fun kk hkk => by simp [Value.ownBlock] at hkk; omega)
                       have hv1 : ∀ kk, v1.ownBlock = some kk → wq.heap.size ≤ kk := fun kk hkk => by rcases hat3 with h | h <;> (rw [h] at hkk; simp [Value.ownBlock] at hkk; omega)
                       have hs3 := hb3.size
                       simp only [List.nil_append, Nat.zero_add] at hown3
                       clear hgrow3 hat3)
                    | (at_builtin; refine app_list rfl (.tmp 38) (.tmp 40) _ rfl g 42 j0 (.slice none 0 0) 1 24 Try.underlying26 hj hy0 hy1 hy2 rfl (by decide) v1 (m' + 1) (vals (R.take (m' + 1))) rfl (hown3.alloc _) (some ⟨w3.heap.size, 0, none⟩) 1 1 [.slice r.A r.L.length r.c] rfl rfl (.inr ⟨_, rfl, new1 _ _ _⟩) (one1 _ rfl) (roomV hm1000 (by decide)).1 (roomV hm1000 (by decide)).2 (by simp; omega) ?_
                       intro v2 w4 hown4 hgrow4 hat4
                       have hb4 : Below wq.heap.size wq w4 := (hb3.alloc hs3 _).grown hgrow4 (by simp; omega) hv1
                       have own4 := own_keep howni hb4
                       have hs4 : g ≤ w4.heap.size := Nat.le_trans hbg hb4.size
                       have hsrc : ∀ x, Src w4 (if c6 = m' + 1 then some ⟨g6, 0, none⟩ else some ⟨g6, m' + 1, none⟩) (k - (m' + 1)) x (vals (R.drop (m' + 1))) := fun _ => by rw [if_pos HCM.out]; exact .inr ⟨_, rfl, fun j u hu => by have := (List.getElem?_eq_some_iff.1 hu).1; rw [HLD.out] at this; have := HCM.out; omega⟩
                       clear hgrow4 hat4)
                    | (at_builtin; refine app_list rfl (.tmp 42) (.tmp 45) _ rfl g 42 j0 (.slice none 0 0) 1 24 Try.underlying26 hj hy0 hy1 hy2 rfl (by decide) v2 ((m' + 1) + 1) _ rfl hown4 _ (k - (m' + 1)) _ (vals (R.drop (m' + 1))) rfl HLD.out (hsrc _) (vals_one _) (roomV (by omega) (by omega)).1 (roomV (by omega) (by omega)).2 hs4 ?_
                       intro v3 w5 hown5 hgrow5 _
                       have hb5 := (hBi.trans (hb4.mono hbg)).grown hgrow5 hs4 (fun kk hkk => (hown4.lt kk hkk).1)
                       obtain ⟨R', r1, r2, r3, r4, r5⟩ := Fin.out v3 w5 hown5
                       clear hgrow5))
                  go_roundw
                  case rel => exact ⟨k + 1, R', r1, by go_num, r2, hb5, r3, fun h => by omega, r4, r5⟩
                  case measure => simp [intOf]; omega
                · have HCM := Lib.hid hcm
                  go_wp2_with (first
                    | (at_builtin; refine app_list rfl (.tmp 34) (.tmp 37) _ rfl g 42 j0 (.slice none 0 0) 1 24 Try.underlying26 hj hy0 hy1 hy2 rfl (by decide) (.slice (some ⟨wq.heap.size, 0, none⟩) 0 0) 0 [] rfl (World.ownsRow_lit wq #[] 0 hbg (Nat.zero_le _) rfl) (some ⟨g6, 0, none⟩) (m' + 1) c6 (vals (R.take (m' + 1))) rfl HLM.out (srcV_take (howni.alloc _) hm) (vals_one _) (roomV (by decide) hm1000).1 (roomV (by decide) hm1000).2 (by simp; omega) ?_
                       intro v1 w3 hown3 hgrow3 hat3
                       have hb3 : Below wq.heap.size wq w3 := ((Below.refl _ wq).alloc (Nat.le_refl _) (.cells #[] 42)).grown hgrow3 (by simp) (fun kk hkk => by simp [Value.ownBlock] at hkk; omega)
                       have hv1 : ∀ kk, v1.ownBlock = some kk → wq.heap.size ≤ kk := fun kk hkk => by rcases hat3 with h | h <;> (rw [h] at hkk; simp [Value.ownBlock] at hkk; omega)
                       have hs3 := hb3.size
                       simp only [List.nil_append, Nat.zero_add] at hown3
                       clear hgrow3 hat3)
                    | (at_builtin; refine app_list rfl (.tmp 38) (.tmp 40) _ rfl g 42 j0 (.slice none 0 0) 1 24 Try.underlying26 hj hy0 hy1 hy2 rfl (by decide) v1 (m' + 1) (vals (R.take (m' + 1))) rfl (hown3.alloc _) (some ⟨w3.heap.size, 0, none⟩) 1 1 [.slice r.A r.L.length r.c] rfl rfl (.inr ⟨_, rfl, new1 _ _ _⟩) (one1 _ rfl) (roomV hm1000 (by decide)).1 (roomV hm1000 (by decide)).2 (by simp; omega) ?_
                       intro v2 w4 hown4 hgrow4 hat4
                       have hb4 : Below wq.heap.size wq w4 := (hb3.alloc hs3 _).grown hgrow4 (by simp; omega) hv1
                       have own4 := own_keep howni hb4
                       have hs4 : g ≤ w4.heap.size := Nat.le_trans hbg hb4.size
                       have hsrc : ∀ x, Src w4 (some ⟨g6, m' + 1, none⟩) (k - (m' + 1)) x (vals (R.drop (m' + 1))) := fun x => srcV_drop own4 HCM.out x
                       clear hgrow4 hat4)
                    | (at_builtin; refine app_list rfl (.tmp 42) (.tmp 45) _ rfl g 42 j0 (.slice none 0 0) 1 24 Try.underlying26 hj hy0 hy1 hy2 rfl (by decide) v2 ((m' + 1) + 1) _ rfl hown4 _ (k - (m' + 1)) _ (vals (R.drop (m' + 1))) rfl HLD.out (hsrc _) (vals_one _) (roomV (by omega) (by omega)).1 (roomV (by omega) (by omega)).2 hs4 ?_
                       intro v3 w5 hown5 hgrow5 _
                       have hb5 := (hBi.trans (hb4.mono hbg)).grown hgrow5 hs4 (fun kk hkk => (hown4.lt kk hkk).1)
                       obtain ⟨R', r1, r2, r3, r4, r5⟩ := Fin.out v3 w5 hown5
                       clear hgrow5))
                  go_roundw
                  case rel => exact ⟨k + 1, R', r1, by go_num, r2, hb5, r3, fun h => by omega, r4, r5⟩
                  case measure => simp [intOf]; omega
      · obtain rfl : k = m0 := by omega
        obtain ⟨A6, c6, rfl⟩ := own_val hown
        have hT : R.Perm R0 := by rw [List.take_of_length_le (by have := HLR.out; omega)] at hp; exact hp
        have hlT : lists R = srtL (allP W H L L.length) := by
          rw [← HM.out]
          exact srtL_uniq (hT.map _) (List.pairwise_map.2 hs)
        have hSx := hS0.keep (hbr.mono (by rw [hBg.out]; exact Nat.le_refl _))
        have hfin : OwnSS wr w1.heap.size A6 k c6 R := by
          refine ⟨hRl.symm, own_base hown (by rw [hBg.out]; exact hw12), ⟨fun x hx => hSx.inner.own x (hT.mem_iff.1 hx), (hT.pairwise_iff (fun {a b} hab kk hkk e => hab kk e hkk)).2 hSx.inner.apart⟩, fun x hx kk hkk e => ?_⟩
          have h1 := (hown.lt kk e).1
          have h2 := (hS0.inner.lt (hT.mem_iff.1 hx) hkk).2
          rw [hBg.out] at h1
          omega
        have hB3 := hB2.trans (hbr.mono (by rw [hBg.out]; exact hB2.size))
        clear hp hs hown hnl hT hSx hS0
        go_wp2_with fail
        go_ret2
        exact RetSS.mk hlT (hfin.based hB1.size) hB3
  · rw [ifGood_no hG, dc_false hG]
    go_enter Try.func49, Try.ntmps49
    go_wp2_with fail
    refine (callB_no (cuGood_any W H A _ c L _ rfl hc ((hL.below (hb0 _)).mono (hb0 _).size)) hG).mono ?_
    rintro e w1 ⟨rfl, hb1⟩
    go_wp2_with fail
    go_ret2
    exact RetSS.none_ ((hb0 _).trans (hb1.mono (hb0 _).size))
end Go.Proofs.Ytmjdmedlkcmgiaa
