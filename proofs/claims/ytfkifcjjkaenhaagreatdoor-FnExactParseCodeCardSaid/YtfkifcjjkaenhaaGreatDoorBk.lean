/- Contract of the model's code of a cut. -/
import Derived.Test.YtfkifcjjkaenhaaGreatDoorGrpG
import Derived.Test.YtfkifcjjkaenhaaGreatDoorApp
set_option linter.all false
namespace Go.Proofs.YtfkifcjjkaenhaaGreatDoor
open Go.RowKit

theorem lit1 (W : World) (N base : Nat) (v : Value) (hN : W.heap.size = N) (hb : base ≤ N) : (W.alloc (.cells #[v] 3)).ownsRow base 3 1 (.slice (some ⟨N, 0, none⟩) 1 1) 1 [v] := by
  subst hN
  exact World.ownsRow_lit W #[v] 1 hb (by unfold maxLen; omega) rfl
theorem newN (W : World) (o : Obj) (a : Value) (t : TypeId) (N : Nat) (hN : W.heap.size = N) : ∀ j u, [a][j]? = some u → ((W.alloc o).alloc (.cells #[a] t)).cell? ((⟨N + 1, 0, none⟩ : Addr).add j) = some u := by
  subst hN
  exact new1' W o a t

theorem OwnSS.again {w w1 w2 : World} {base g0 n c m : Nat} {P : List Rw} {r : Rw} {d : Int} {A6 : Option Addr} {c6 : Nat} (h : OwnSS w base (some ⟨g0, 0, none⟩) n c (P ++ [r])) (hb : Below w.heap.size w w1) (hg : w1.grownBy w2 (Value.slice r.A r.L.length r.c).ownBlock)
    (ho : w2.ownsRow base 3 1 (.slice A6 (r.L.length + 1) c6) (r.L.length + 1) (ints r.L ++ [.int .i64 d])) (hv : (Value.slice A6 (r.L.length + 1) c6).ownBlock = (Value.slice r.A r.L.length r.c).ownBlock ∨ (Value.slice A6 (r.L.length + 1) c6).ownBlock = some w1.heap.size) (hm : m = P.length) :
    OwnSS (w2.setCell ⟨g0, m, none⟩ (.slice A6 (r.L.length + 1) c6)) base (some ⟨g0, 0, none⟩) n c (P ++ [⟨A6, c6, r.L ++ [d]⟩]) := by
  subst hm
  have e : (Rw.mk A6 c6 (r.L ++ [d])).val = .slice A6 (r.L.length + 1) c6 := by simp [Rw.val]
  have := h.redo (r' := ⟨A6, c6, r.L ++ [d]⟩) hb hg (by rw [e, ints_app, List.length_append]; exact ho) (by rw [e]; exact hv)
  rwa [e] at this

set_option maxRecDepth 100000 in
set_option maxHeartbeats 16000000 in
theorem bkCode_any (W H : Int) (A : Option Addr) (n c : Nat) (L : List Sq) (w : World) (hl : L.length = n) (hn : n ≤ 30) (hL : SqsAt w w.heap.size A L) (hf : ∀ s ∈ L, Fine s) :
    Calls Tryz.prog 36 #[.agg #[.int .i64 W, .int .i64 H, .slice A n c]] w (RetSSv w (glists (grps L))) := by
  subst hl
  obtain ⟨i0, hi, hz0, hz1, hzb⟩ := info_parts infoInt
  obtain ⟨j0, hj, hy0, hy1, hy2⟩ := info_parts infoSl
  have Z0 : Box w.heap.size w (w.alloc (.cells #[.int .i64 W, .int .i64 H, .slice A L.length c] 43)) W H A c L := Box.start hL
  obtain ⟨W1, hW1⟩ : ∃ W1, W1 = w.alloc (.cells #[.int .i64 W, .int .i64 H, .slice A L.length c] 43) := ⟨_, rfl⟩
  have hz1' : W1.heap.size = w.heap.size + 1 := by rw [hW1]; simp
  rw [← hW1] at Z0
  obtain ⟨hB1, hs1, b0, b1, b2, hL1⟩ := id Z0
  go_enter Tryz.func36, Tryz.ntmps36
  go_wp2_with fail
  rw [← hW1]
  clear hW1
  go_wp2_with fail
  go_loopw [3, 10] (fun v i wr => ∃ (k : Nat) (A' : Option Addr) (n' c' : Nat) (R : List Rw), k ≤ L.length ∧ i = .int .i64 k ∧ v = .slice A' n' c' ∧ lists R = glists (grps (L.take k)) ∧ OwnSS wr (w.heap.size + 1) A' n' c' R ∧ Below (w.heap.size + 1) W1 wr ∧ w.heap.size + 1 ≤ wr.heap.size) (fun _ i _ => L.length - (intOf i).toNat)
  case atStart => exact ⟨0, none, 0, 0, [], Nat.zero_le _, rfl, rfl, by simp [lists, glists, grps], OwnSS.nil _ _, Below.refl _ _, Nat.le_of_eq hz1'.symm⟩
  case round =>
    obtain ⟨k, A1, n1, c1, R, hk, rfl, rfl, hM, hS, hbr, hzr⟩ := hrel
    have hzr' : w.heap.size < wr.heap.size := by omega
    have b2r := (hbr.cell (p := ⟨w.heap.size, 2, none⟩) (by simp)).trans b2
    by_cases hlt : k < L.length
    · obtain ⟨s, hs⟩ : ∃ s, L[k]? = some s := ⟨_, List.getElem?_eq_getElem hlt⟩
      have hLr := hL1.below (hbr.mono (by omega))
      obtain ⟨b, off, rfl, hb, d0, d1, d2⟩ := hLr k s hs
      obtain ⟨f0, f1, f2, f3, f4, f5⟩ := hf s (List.mem_of_getElem? hs)
      have hsuc := grps_take_succ L k s hs
      have hbd := grps_bd L k
      have hn1 : n1 ≤ 30 := by
        have e := hS.len
        have e2 := congrArg List.length hM
        simp only [lists, glists, List.length_map] at e2
        omega
      have k0 : (0 : Int) ≤ (k : Int) := by omega
      have k1 : (k : Int) < (L.length : Int) := by omega
      have hlow : ∀ kk, Blk A1 n1 c1 R kk → kk < wr.heap.size := fun kk hkk => (hS.lt hkk).2
      have hbl : n1 + 1 ≤ maxLen := by unfold maxLen; omega
      have hby : (n1 + 1) * 24 ≤ 140737488355328 := by omega
      rcases Nat.eq_zero_or_pos k with rfl | hkp
      · have hr : lists (R ++ [⟨some ⟨wr.heap.size + 1, 0, none⟩, 1, [s.d]⟩]) = glists (grps (L.take (0 + 1))) := by
          rw [lists_app, hM, hsuc]; simp [lists, glists, grps, gstep_nil]
        have HR := Lib.hid hr
        simp only [Nat.zero_mul, Nat.add_zero] at d0 d1 d2
        clear hr hM hs hsuc hbd hLr hL hL1 Z0 b0 b1 b2 b2r
        have hbX : Below wr.heap.size wr (wr.alloc (.cells #[.int .i64 s.x, .int .i64 s.y, .int .i64 s.d] 71)) := ((Below.refl _ _).alloc (Nat.le_refl _) _)
        have hN : (wr.alloc (.cells #[.int .i64 s.x, .int .i64 s.y, .int .i64 s.d] 71)).heap.size = wr.heap.size + 1 := by simp
        have hSX := hS.keep hbX
        have hBX := hbr.trans (hbX.mono hzr)
        have hwX : w.heap.size + 1 ≤ (wr.alloc (.cells #[.int .i64 s.x, .int .i64 s.y, .int .i64 s.d] 71)).heap.size := by rw [hN]; omega
        have hlX : ∀ kk, Blk A1 n1 c1 R kk → kk < wr.heap.size + 1 := fun kk hkk => by have := hlow kk hkk; omega
        have HN := Lib.hid hN
        clear hN hS
        go_wp2_with (at_builtin; refine app_list rfl _ _ _ rfl (w.heap.size + 1) 32 j0 (.slice none 0 0) 1 24 Tryz.underlying22 hj hy0 hy1 hy2 rfl (by decide) (.slice A1 n1 c1) n1 _ rfl ((hSX.outer.alloc _).alloc _) (some ⟨wr.heap.size + 1 + 1, 0, none⟩) 1 1 [.slice (some ⟨wr.heap.size + 1, 0, none⟩) 1 1] rfl rfl (.inr ⟨_, rfl, newN _ _ _ _ _ HN.out⟩) (one1 _ rfl) hbl hby (by simp; omega) ?_; intro v' w6 hown6 hgrow hv6)
        have hB7 : Below (w.heap.size + 1) W1 w6 := ((hBX.alloc hwX _).alloc (by simp; omega) _).grown hgrow (by simp; omega) (fun k hk => (hSX.lt (.inl hk)).1)
        obtain ⟨A7, c7, rfl, hS7⟩ := (hSX.keep (((Below.refl _ _).alloc (Nat.le_refl _) _).alloc (by simp) _)).push ⟨some ⟨wr.heap.size + 1, 0, none⟩, 1, [s.d]⟩ ((lit1 _ _ _ _ HN.out (by omega)).alloc _) (fun kk hkk hkb => by have := hlX kk hkb; simp [Rw.val, Value.ownBlock] at hkk; omega) hown6 hgrow hv6
        have hz6 := hB7.size
        clear hgrow hown6 hv6 hSX
        go_wp2_with fail
        go_roundw
        case rel => exact ⟨0 + 1, A7, n1 + 1, c7, _, by omega, by go_num, rfl, HR.out, hS7, hB7, by omega⟩
        case measure => simp [intOf]; omega
      · obtain ⟨k', rfl⟩ : ∃ k', k = k' + 1 := ⟨k - 1, by omega⟩
        obtain ⟨q, hq⟩ : ∃ s, L[k']? = some s := ⟨_, List.getElem?_eq_getElem (by omega)⟩
        obtain ⟨b', off', he, hb', t0, t1, t2⟩ := hLr k' q hq
        simp only [Option.some.injEq, Addr.mk.injEq] at he
        obtain ⟨rfl, rfl, _⟩ := he
        obtain ⟨g0', g1', g2', g3', g4', g5'⟩ := hf q (List.mem_of_getElem? hq)
        obtain ⟨PG, lq, hPG⟩ := grps_last L k' q hq
        have htb := (grps_bd L (k' + 1)).2
        rw [hPG] at hM hsuc htb
        have hbw : b < wr.heap.size := by omega
        have k2 : (k' : Int) + 1 < (L.length : Int) := by omega
        have em : (((k' + 1 : Nat) : Int) - 1) = (k' : Int) := by omega
        have j0' : (0 : Int) ≤ (k' : Int) := by omega
        have j1' : (k' : Int) < (L.length : Int) := by omega
        have w1 : IntKind.i64.wrap (q.x + q.d) = q.x + q.d := IntWalk.i64_in _ (by omega)
        have HM := Lib.hid hM
        have HSU := Lib.hid hsuc
        obtain ⟨p1, hp1⟩ : ∃ p, (q.y == s.y) = p := ⟨_, rfl⟩
        obtain ⟨p2, hp2⟩ : ∃ p, (q.x + q.d == s.x) = p := ⟨_, rfl⟩
        have hN : Nxt q s = (p2 && p1) := by unfold Nxt; rw [hp1, hp2]
        have HNX := Lib.hid hN
        clear hN hM hs hsuc hbd hLr hL hL1 Z0 b0 b1 b2 hq hPG hkp
        have hno : Nxt q s = false → lists (R ++ [⟨some ⟨wr.heap.size + 1 + 1, 0, none⟩, 1, [s.d]⟩]) = glists (grps (L.take (k' + 1 + 1))) := fun h => by
          rw [lists_app, HM.out, HSU.out, gstep_new PG (q, lq) s h]; simp [glists, lists]
        have HNO := Lib.hid hno
        clear hno
        cases p1
        · have HN2 : Hid (Nxt q s = false) := Lib.hid (by rw [HNX.out]; simp)
          have hbX : Below wr.heap.size wr ((wr.alloc (.cells #[.int .i64 s.x, .int .i64 s.y, .int .i64 s.d] 71)).alloc (.cells #[.int .i64 q.x, .int .i64 q.y, .int .i64 q.d] 71)) := ((Below.refl _ _).alloc (Nat.le_refl _) _).alloc (by simp) _
          have hN : ((wr.alloc (.cells #[.int .i64 s.x, .int .i64 s.y, .int .i64 s.d] 71)).alloc (.cells #[.int .i64 q.x, .int .i64 q.y, .int .i64 q.d] 71)).heap.size = wr.heap.size + 1 + 1 := by simp
          have hSX := hS.keep hbX
          have hBX := hbr.trans (hbX.mono hzr)
          have hwX : w.heap.size + 1 ≤ ((wr.alloc (.cells #[.int .i64 s.x, .int .i64 s.y, .int .i64 s.d] 71)).alloc (.cells #[.int .i64 q.x, .int .i64 q.y, .int .i64 q.d] 71)).heap.size := by rw [hN]; omega
          have hlX : ∀ kk, Blk A1 n1 c1 R kk → kk < wr.heap.size + 1 + 1 := fun kk hkk => by have := hlow kk hkk; omega
          have HN := Lib.hid hN
          clear hN hS
          go_wp2_with (at_builtin; refine app_list rfl _ _ _ rfl (w.heap.size + 1) 32 j0 (.slice none 0 0) 1 24 Tryz.underlying22 hj hy0 hy1 hy2 rfl (by decide) (.slice A1 n1 c1) n1 _ rfl ((hSX.outer.alloc _).alloc _) (some ⟨wr.heap.size + 1 + 1 + 1, 0, none⟩) 1 1 [.slice (some ⟨wr.heap.size + 1 + 1, 0, none⟩) 1 1] rfl rfl (.inr ⟨_, rfl, newN _ _ _ _ _ HN.out⟩) (one1 _ rfl) hbl hby (by simp; omega) ?_; intro v' w6 hown6 hgrow hv6)
          have hB7 : Below (w.heap.size + 1) W1 w6 := ((hBX.alloc hwX _).alloc (by simp; omega) _).grown hgrow (by simp; omega) (fun k hk => (hSX.lt (.inl hk)).1)
          obtain ⟨A7, c7, rfl, hS7⟩ := (hSX.keep (((Below.refl _ _).alloc (Nat.le_refl _) _).alloc (by simp) _)).push ⟨some ⟨wr.heap.size + 1 + 1, 0, none⟩, 1, [s.d]⟩ ((lit1 _ _ _ _ HN.out (by omega)).alloc _) (fun kk hkk hkb => by have := hlX kk hkb; simp [Rw.val, Value.ownBlock] at hkk; omega) hown6 hgrow hv6
          have hz6 := hB7.size
          clear hgrow hown6 hv6 hSX
          go_wp2_with fail
          go_roundw
          case rel => exact ⟨k' + 1 + 1, A7, n1 + 1, c7, _, by omega, by go_num, rfl, HNO.out HN2.out, hS7, hB7, by omega⟩
          case measure => simp [intOf]; omega
        · cases p2
          · have HN2 : Hid (Nxt q s = false) := Lib.hid (by rw [HNX.out]; simp)
            have hbX : Below wr.heap.size wr ((wr.alloc (.cells #[.int .i64 s.x, .int .i64 s.y, .int .i64 s.d] 71)).alloc (.cells #[.int .i64 q.x, .int .i64 q.y, .int .i64 q.d] 71)) := ((Below.refl _ _).alloc (Nat.le_refl _) _).alloc (by simp) _
            have hN : ((wr.alloc (.cells #[.int .i64 s.x, .int .i64 s.y, .int .i64 s.d] 71)).alloc (.cells #[.int .i64 q.x, .int .i64 q.y, .int .i64 q.d] 71)).heap.size = wr.heap.size + 1 + 1 := by simp
            have hSX := hS.keep hbX
            have hBX := hbr.trans (hbX.mono hzr)
            have hwX : w.heap.size + 1 ≤ ((wr.alloc (.cells #[.int .i64 s.x, .int .i64 s.y, .int .i64 s.d] 71)).alloc (.cells #[.int .i64 q.x, .int .i64 q.y, .int .i64 q.d] 71)).heap.size := by rw [hN]; omega
            have hlX : ∀ kk, Blk A1 n1 c1 R kk → kk < wr.heap.size + 1 + 1 := fun kk hkk => by have := hlow kk hkk; omega
            have HN := Lib.hid hN
            clear hN hS
            go_wp2_with (at_builtin; refine app_list rfl _ _ _ rfl (w.heap.size + 1) 32 j0 (.slice none 0 0) 1 24 Tryz.underlying22 hj hy0 hy1 hy2 rfl (by decide) (.slice A1 n1 c1) n1 _ rfl ((hSX.outer.alloc _).alloc _) (some ⟨wr.heap.size + 1 + 1 + 1, 0, none⟩) 1 1 [.slice (some ⟨wr.heap.size + 1 + 1, 0, none⟩) 1 1] rfl rfl (.inr ⟨_, rfl, newN _ _ _ _ _ HN.out⟩) (one1 _ rfl) hbl hby (by simp; omega) ?_; intro v' w6 hown6 hgrow hv6)
            have hB7 : Below (w.heap.size + 1) W1 w6 := ((hBX.alloc hwX _).alloc (by simp; omega) _).grown hgrow (by simp; omega) (fun k hk => (hSX.lt (.inl hk)).1)
            obtain ⟨A7, c7, rfl, hS7⟩ := (hSX.keep (((Below.refl _ _).alloc (Nat.le_refl _) _).alloc (by simp) _)).push ⟨some ⟨wr.heap.size + 1 + 1, 0, none⟩, 1, [s.d]⟩ ((lit1 _ _ _ _ HN.out (by omega)).alloc _) (fun kk hkk hkb => by have := hlX kk hkb; simp [Rw.val, Value.ownBlock] at hkk; omega) hown6 hgrow hv6
            have hz6 := hB7.size
            clear hgrow hown6 hv6 hSX
            go_wp2_with fail
            go_roundw
            case rel => exact ⟨k' + 1 + 1, A7, n1 + 1, c7, _, by omega, by go_num, rfl, HNO.out HN2.out, hS7, hB7, by omega⟩
            case measure => simp [intOf]; omega
          · have HN2 : Hid (Nxt q s = true) := Lib.hid (by rw [HNX.out]; simp)
            obtain ⟨Q0, r, hRr⟩ : ∃ Q0 r, R = Q0 ++ [r] := by
              rcases nil_or_snoc R with rfl | h
              · have := HM.out; simp [lists, glists] at this
              · exact h
            subst hRr
            obtain ⟨m, rfl⟩ : ∃ m, n1 = m + 1 := ⟨n1 - 1, by have := hS.len; simp at this; omega⟩
            have hmQ : m = Q0.length := by have := hS.len; simp at this; omega
            obtain ⟨g0, rfl⟩ := own_form hS.outer (by omega)
            have HM2 := HM.out
            rw [lists_app, glists_app] at HM2
            have hQ0 : lists Q0 = glists PG := List.append_inj_left' HM2 (by simp [lists, glists])
            have hrl : r.L = lq := by have := List.append_inj_right' HM2 (by simp [lists, glists]); simpa [lists, glists] using this
            have hyes : ∀ (A6 : Option Addr) (c6 : Nat), lists (Q0 ++ [⟨A6, c6, r.L ++ [s.d]⟩]) = glists (grps (L.take (k' + 1 + 1))) := fun A6 c6 => by
              rw [lists_app, HSU.out, gstep_on PG (q, lq) s HN2.out, glists_app, hQ0, hrl]; simp [glists, lists]
            have HYE := Lib.hid hyes
            have hgl : r.L.length ≤ 30 := by
              have h1 : tot (lists (Q0 ++ [r])) ≤ 30 := by rw [HM.out]; omega
              have := tot_mem (show r.L ∈ lists (Q0 ++ [r]) by simp [lists])
              omega
            clear HM2 hQ0 hrl hyes
            go_wp2_with fail
            obtain ⟨W2, hW2⟩ : ∃ W2, W2 = (wr.alloc (.cells #[.int .i64 s.x, .int .i64 s.y, .int .i64 s.d] 71)).alloc (.cells #[.int .i64 q.x, .int .i64 q.y, .int .i64 q.d] 71) := ⟨_, rfl⟩
            have hb2 : Below wr.heap.size wr W2 := by rw [hW2]; exact ((Below.refl _ _).alloc (Nat.le_refl _) _).alloc (by simp) _
            have e2 : W2.cell? ⟨wr.heap.size, 2, none⟩ = some (.int .i64 s.d) := by rw [hW2]; simp [go_sem]
            have hz2 : W2.heap.size = wr.heap.size + 2 := by rw [hW2]; simp
            have hS2 := hS.keep hb2
            have hB2 := hbr.trans (hb2.mono hzr)
            rw [← hW2]
            have hrow := hS2.inner.own r (by simp)
            have c0 : W2.cell? ⟨g0, m, none⟩ = some (.slice r.A r.L.length r.c) := by
              rw [hS2.outer.cellAt m (by omega), vals_app, List.getElem?_append_right (by rw [vals_len, hmQ]; exact Nat.le_refl _), vals_len, hmQ, Nat.sub_self]
              rfl
            have hgb := (own_lt hS2.outer).1
            have hgz := (own_lt hS2.outer).2
            have hroom : ∀ k, (Value.slice r.A r.L.length r.c).ownBlock = some k → w.heap.size + 1 ≤ k := fun k hk => (hrow.lt k hk).1
            have hgr : ∀ k, (Value.slice r.A r.L.length r.c).ownBlock = some k → (Value.slice (some ⟨g0, 0, none⟩) (m + 1) c1).ownBlock ≠ some k := fun k hk e => hS2.away r (by simp) k hk e
            have hbl2 : r.L.length + 1 ≤ maxLen := by unfold maxLen; omega
            have hby2 : (r.L.length + 1) * 8 ≤ 140737488355328 := by omega
            have q0 : (0 : Int) ≤ (m : Int) := by omega
            have q1 : (m : Int) < ((m + 1 : Nat) : Int) := by omega
            have q2 : (m : Int) < (m : Int) + 1 := by omega
            have q3 : IntKind.i64.wrap (m : Int) = (m : Int) := IntWalk.i64_in _ (by omega)
            have q4 : IntKind.i64.wrap ((m : Int) + 1 - 1) = (m : Int) := by rw [show (m : Int) + 1 - 1 = m by omega]; exact q3
            have hw2 : w.heap.size + 1 ≤ W2.heap.size := by omega
            have hhz : wr.heap.size < W2.heap.size := by omega
            have HMQ := Lib.hid hmQ
            clear hW2 hb2 hS hz2 d0 d1 d2 t0 t1 t2 b2r hmQ em w1 hp1 hp2
            go_region_law (first | (refine app_step rfl _ _ _ rfl (w.heap.size + 1) 3 i0 (.int .i64 0) 1 8 Tryz.underlying32 hi hz0 hz1 hzb rfl (by decide) (.slice r.A r.L.length r.c) r.L.length _ rfl (hrow.drew.alloc _) (some ⟨W2.heap.size, 0, none⟩) 1 1 [.int .i64 s.d] rfl rfl (.inr ⟨_, rfl, new1 _ _ _⟩) (one1 _ rfl) hbl2 hby2 (by simp; omega) ?_; intro v' w6 hown6 hgrow hv6; obtain ⟨A6, c6, rfl⟩ := own_val hown6; have ho6 := own_far (hS2.outer.drew.alloc (.cells #[.int .i64 s.d] 3)) hgrow (fun k hk he => hgr k he hk); obtain ⟨x0, y0⟩ := own_some ho6 (j := m) (by omega); have z0 := ho6.frozenAt m; clear ho6))
            all_goals
              have HS := hS2.again (behind W2 _) hgrow hown6 hv6 HMQ.out
              have hB7 := ((hB2.trans ((behind W2 _).mono hw2)).grown hgrow (by simp; omega) hroom).setCell (p := ⟨g0, m, none⟩) hgb (.slice A6 (r.L.length + 1) c6)
              have hz7 := hB7.size
              clear hgrow hown6 hv6 y0 z0
              go_wp2_with fail
              go_roundw
              case rel => exact ⟨k' + 1 + 1, _, m + 1, c1, _, by omega, by go_num, rfl, HYE.out A6 c6, HS, hB7, by simp at hz7 ⊢; omega⟩
              case measure => simp [intOf]; omega
    · obtain rfl : k = L.length := by omega
      rw [List.take_of_length_le (Nat.le_refl _)] at hM
      go_wp2_with fail
      go_ret
      exact RetSSv.mk hM (hS.based (by omega)) (hB1.trans (hbr.mono (by omega)))
end Go.Proofs.YtfkifcjjkaenhaaGreatDoor
