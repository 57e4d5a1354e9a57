/- Contract of the program's groups of squares. -/
import Derived.Test.YtfkifcjjkaenhaaGreatDoorGrpG
import Derived.Test.YtfkifcjjkaenhaaGreatDoorApp
set_option linter.all false
namespace Go.Proofs.YtfkifcjjkaenhaaGreatDoor
open Go.RowKit

theorem eqSq (a b c a' b' c' : Int) (w : World) : (Op.equalIn 10000 71 (.agg #[.int .i64 a, .int .i64 b, .int .i64 c]) (.agg #[.int .i64 a', .int .i64 b', .int .i64 c'])).run Tryz.prog w = .ok (a == a' && b == b' && c == c') w := by
  have u3 := Tryz.underlying3
  have a3 : ∀ w, (isAgg 3).run Tryz.prog w = .ok false w := fun _ => by kernel_rfl
  have z3 : ∀ w, (Go.sizeOf 3).run Tryz.prog w = .ok 1 w := fun _ => by kernel_rfl
  have hS : Tryz.prog.underlying 71 = some (.struct (Tryz.prog.fieldsOf 71)) := by kernel_rfl
  have hp : Tryz.prog.stoodInHeld 71 = false := by kernel_rfl
  rw [show (10000 : Nat) = 9999 + 1 from rfl, run_equalIn_agg w 9999 71 _ _ hS hp]
  simp only [Program.fieldsOf, Tryz.underlying71]
  go_simp
  by_cases h1 : a = a' <;> by_cases h2 : b = b' <;> by_cases h3 : c = c' <;> simp [h1, h2, h3]

set_option maxRecDepth 100000 in
theorem next_any (x y d : Int) (v : Value) (e : Int) (hx : 0 ≤ x) (hx1 : x ≤ 1000000) (hd : 0 ≤ d) (hd1 : d ≤ 1000000) (w : World) :
    Calls Tryz.prog 73 #[.agg #[.int .i64 x, .int .i64 y, .int .i64 d, v], .int .i64 e] w fun e' w' => e' = .returned (.agg #[.int .i64 (x + d), .int .i64 y, .int .i64 e]) ∧ Below w.heap.size w w' := by
  go_enter Tryz.func73, Tryz.ntmps73
  go_wp2_with fail
  refine bodyPost_ret (v := .agg #[.int .i64 (x + d), .int .i64 y, .int .i64 e]) (by simp [results, Tryz.results73, go_sem]) rfl ⟨rfl, ?_⟩
  exact ((Below.refl _ _).alloc (Nat.le_refl _) _).alloc (by simp) _

/-- It returns the groups of squares in memory of the call's own. -/
def RetG (w : World) (L : List Sq) (e : Ending) (w' : World) : Prop :=
  ∃ A c G, e = .returned (.slice A G.length c) ∧ asG G = grps L ∧ OwnG w' w.heap.size A G.length c G ∧ Below w.heap.size w w'
theorem RetG.mk {w w' : World} {A : Option Addr} {n c : Nat} {G : List Gp} {L : List Sq} (hG : asG G = grps L) (ho : OwnG w' w.heap.size A n c G) (hb : Below w.heap.size w w') : RetG w L (.returned (.slice A n c)) w' := by
  have h := ho.len
  subst h
  exact ⟨A, c, G, rfl, hG, ho, hb⟩
theorem new4' (w : World) (o : Obj) (a b c d : Value) (t : TypeId) : ∀ j u, [a, b, c, d][j]? = some u → ((w.alloc o).alloc (.cells #[a, b, c, d] t)).cell? ((⟨w.heap.size + 1, 0, none⟩ : Addr).add j) = some u := by
  intro j u hj
  match j, hj with
  | 0, hj => simp at hj; subst hj; simp [Addr.add]
  | 1, hj => simp at hj; subst hj; simp [Addr.add]
  | 2, hj => simp at hj; subst hj; simp [Addr.add]
  | 3, hj => simp at hj; subst hj; simp [Addr.add]

set_option maxRecDepth 100000 in
set_option maxHeartbeats 8000000 in
theorem groupsOf_any (A : Option Addr) (n c : Nat) (L : List Sq) (w : World) (hl : L.length = n) (hn : n ≤ 30) (hL : SqsAt w w.heap.size A L) (hf : ∀ s ∈ L, Fine s) :
    Calls Tryz.prog 50 #[.slice A n c] w (RetG w L) := by
  subst hl
  obtain ⟨i0, hi, hz0, hz1, hzb⟩ := info_parts infoInt
  obtain ⟨j0, hj, hy0, hy1, hy2⟩ := info_parts infoG
  go_enter Tryz.func50, Tryz.ntmps50
  go_wp2_with fail
  go_loopw [3, 9] (fun v i wr => ∃ (k : Nat) (A' : Option Addr) (n' c' : Nat) (G : List Gp), k ≤ L.length ∧ i = .int .i64 k ∧ v = .slice A' n' c' ∧ asG G = grps (L.take k) ∧ OwnG wr w.heap.size A' n' c' G ∧ Below w.heap.size w wr) (fun _ i _ => L.length - (intOf i).toNat)
  case atStart => exact ⟨0, none, 0, 0, [], Nat.zero_le _, rfl, rfl, by simp [asG, grps], OwnG.nil _ _, Below.refl _ _⟩
  case round =>
    obtain ⟨k, A1, n1, c1, G, hk, rfl, rfl, hM, hS, hbr⟩ := hrel
    have hs1 := hbr.size
    by_cases hlt : k < L.length
    · obtain ⟨s, hs⟩ : ∃ s, L[k]? = some s := ⟨_, List.getElem?_eq_getElem hlt⟩
      obtain ⟨b, off, rfl, hb, d0, d1, d2⟩ := (hL.below hbr) k s hs
      obtain ⟨f0, f1, f2, f3, f4, f5⟩ := hf s (List.mem_of_getElem? hs)
      have hsuc := grps_take_succ L k s hs
      have hbd := grps_bd L k
      have hn1 : n1 ≤ 30 := by
        have e := hS.len
        have e2 := congrArg List.length hM
        simp only [asG, List.length_map] at e2
        omega
      have htot : tot (glists (asG G)) ≤ 30 := by rw [hM]; omega
      rw [← hM] at hsuc
      have HM := Lib.hid hM
      have HSU := Lib.hid hsuc
      have k0 : (0 : Int) ≤ (k : Int) := by omega
      have k1 : (k : Int) < (L.length : Int) := by omega
      clear hM hs hsuc hbd
      go_wp2_with fail
      obtain ⟨W2, hW2⟩ : ∃ W2, W2 = wr.alloc (.cells #[.int .i64 s.x, .int .i64 s.y, .int .i64 s.d] 71) := ⟨_, rfl⟩
      have hb2 : Below wr.heap.size wr W2 := by rw [hW2]; exact (Below.refl _ _).alloc (Nat.le_refl _) _
      have hz2 : W2.heap.size = wr.heap.size + 1 := by rw [hW2]; simp
      have e0 : W2.cell? ⟨wr.heap.size, 0, none⟩ = some (.int .i64 s.x) := by rw [hW2]; simp
      have e1 : W2.cell? ⟨wr.heap.size, 1, none⟩ = some (.int .i64 s.y) := by rw [hW2]; simp
      have e2 : W2.cell? ⟨wr.heap.size, 2, none⟩ = some (.int .i64 s.d) := by rw [hW2]; simp
      have hS2 := hS.keep hb2
      have hB2 := hbr.trans (hb2.mono hs1)
      have hlow : ∀ kk, Blk A1 n1 c1 (rowsG G) kk → kk < wr.heap.size := fun kk hkk => (hS.lt hkk).2
      rw [← hW2]
      clear hW2 d0 d1 d2 hS hb2
      obtain ⟨h, hh⟩ : ∃ h, h = wr.heap.size := ⟨_, rfl⟩
      rw [← hh] at e0 e1 e2 hz2 hlow hs1 ⊢
      clear hh
      rcases nil_or_snoc G with rfl | ⟨Q, g, rfl⟩
      · obtain rfl : n1 = 0 := hS2.len
        have C : ∀ bb o v, bb < h + 1 → W2.cell? ⟨bb, o, none⟩ = some v → ∀ u : Later (h + 1) W2, u.val.cell? ⟨bb, o, none⟩ = some v := fun bb o v hb h u => (u.ok.cell (p := ⟨bb, o, none⟩) hb).trans h
        have E0 := C _ _ _ (by omega) e0
        have E1 := C _ _ _ (by omega) e1
        have E2 := C _ _ _ (by omega) e2
        refine wp_region_sub (h + 1) (by kernel_rfl) (by kernel_rfl) ?_
        repeat (first | go_big_quiet_step (fail) | quiet_step (fail))
        refine wpQuiet_nil ?_
        rintro w4 ⟨uu, hu⟩; have hb4 := uu.ok
        have e0' := E0 uu
        have e1' := E1 uu
        have e2' := E2 uu
        rw [← hu] at hb4 e0' e1' e2'
        clear hu uu E0 E1 E2 C
        have hz4 := hb4.size
        have hS4 := hS2.keep (hb4.mono (by omega))
        have hB4 := hB2.trans (hb4.mono (by omega))
        have hw4 : w.heap.size ≤ w4.heap.size := by omega
        have hh4 : h < w4.heap.size := by omega
        clear hS2 hB2 hb4 e0 e1 e2
        have hbl : 0 + 1 ≤ maxLen := by unfold maxLen; omega
        have hby : (0 + 1) * 48 ≤ 140737488355328 := by omega
        go_wp2_with (at_builtin; refine app_list rfl _ _ _ rfl w.heap.size 73 j0 (.agg #[.int .i64 0, .int .i64 0, .int .i64 0, .slice none 0 0]) 4 48 Tryz.underlying66 hj hy0 hy1 hy2 rfl (by decide) (.slice A1 0 c1) 0 _ rfl ((hS4.outer.alloc _).alloc _) (some ⟨w4.heap.size + 1, 0, none⟩) 1 1 [.int .i64 s.x, .int .i64 s.y, .int .i64 s.d, .slice (some ⟨w4.heap.size, 0, none⟩) 1 1] rfl rfl (.inr ⟨_, rfl, new4' _ _ _ _ _ _ _⟩) (flatG_one [⟨s, ⟨some ⟨w4.heap.size, 0, none⟩, 1, [s.d]⟩⟩]) hbl hby (by simp; omega) ?_; intro v' w6 hown6 hgrow hv6)
        have hB7 : Below w.heap.size w w6 := ((hB4.alloc hw4 _).alloc (by simp; omega) _).grown hgrow (by simp; omega) (fun k hk => (hS4.lt (.inl hk)).1)
        obtain ⟨A7, c7, rfl, hS7⟩ := (hS4.keep (((Below.refl _ _).alloc (Nat.le_refl _) _).alloc (by simp) _)).push ⟨s, ⟨some ⟨w4.heap.size, 0, none⟩, 1, [s.d]⟩⟩ ((World.ownsRow_lit w4 #[.int .i64 s.d] 1 hw4 (by unfold maxLen; omega) rfl).alloc _) (fun kk hkk hkb => by have := hlow kk hkb; simp [Rw.val, Value.ownBlock] at hkk; omega) hown6 hgrow hv6
        clear hgrow hown6 hv6 hS4
        go_wp2_with fail
        go_roundw
        case rel => exact ⟨k + 1, A7, 0 + 1, c7, _, by omega, by go_num, rfl, by rw [HSU.out]; rfl, hS7, hB7⟩
        case measure => simp [intOf]; omega
      · obtain ⟨m, rfl⟩ : ∃ m, n1 = m + 1 := ⟨n1 - 1, by have := hS2.len; simp at this; omega⟩
        have hlenQ : m = Q.length := by have := hS2.len; simp at this; omega
        have hrow := hS2.inner.own g.r (by simp [rowsG])
        obtain ⟨g0, rfl⟩ := own_form hS2.outer (by omega)
        have hcell : ∀ j v, (gpV g)[j]? = some v → W2.cell? ⟨g0, m * 4 + j, none⟩ = some v := fun j v hv => by
          have hj : j < 4 := by have := (List.getElem?_eq_some_iff.1 hv).1; simpa [gpV] using this
          rw [hS2.outer.cellAt (m * 4 + j) (by omega), hlenQ]
          exact flatG_get Q [] g j v hv
        have c0 : W2.cell? ⟨g0, m * 4, none⟩ = some (.int .i64 g.s.x) := by simpa using hcell 0 _ rfl
        have c1' := hcell 1 _ rfl
        have c2 := hcell 2 _ rfl
        have c3 : W2.cell? ⟨g0, m * 4 + 3, none⟩ = some (.slice g.r.A g.r.L.length g.r.c) := hcell 3 _ rfl
        have hg0 : g0 < h := hlow g0 (.inl rfl)
        have HLQ := Lib.hid hlenQ
        clear hlenQ
        clear hcell
        have hgm := grps_mem L k
        rw [← HM.out] at hgm
        obtain ⟨v0, v1, v2, v3, v4, v5⟩ := hf g.s (hgm (g.s, g.r.L) (by simp [asG]))
        have hgl : g.r.L.length ≤ 30 := by
          have : g.r.L ∈ glists (asG (Q ++ [g])) := by simp [glists, asG]
          have := tot_mem this
          omega
        have hnx := fun p1 p2 => show Nxt g.s s = (p1 && p2) → _ from fun e : Nxt g.s s = (p1 && p2) => e
        have em : (((m + 1 : Nat) : Int) - 1) = (m : Int) := by omega
        have q0 : (0 : Int) ≤ (m : Int) := by omega
        have q1 : (m : Int) < ((m + 1 : Nat) : Int) := by omega
        have q2 : (m : Int) < (m : Int) + 1 := by omega
        have w1 : IntKind.i64.wrap (g.s.x + g.s.d) = g.s.x + g.s.d := IntWalk.i64_in _ (by omega)
        rw [em]
        clear hgm em hL hf htot hnx
        have C : ∀ bb o v, bb < h + 1 → W2.cell? ⟨bb, o, none⟩ = some v → ∀ u : Later (h + 1) W2, u.val.cell? ⟨bb, o, none⟩ = some v := fun bb o v hb h u => (u.ok.cell (p := ⟨bb, o, none⟩) hb).trans h
        have E0 := C _ _ _ (by omega) e0
        have E1 := C _ _ _ (by omega) e1
        have E2 := C _ _ _ (by omega) e2
        have C0 := C _ _ _ (by omega) c0
        have C1 := C _ _ _ (by omega) c1'
        have C2 := C _ _ _ (by omega) c2
        have C3 := C _ _ _ (by omega) c3
        have heq := eqSq
        have hsz : h + 1 ≤ W2.heap.size := by omega
        have CN := fun u : Later (h + 1) W2 => next_any g.s.x g.s.y g.s.d (.slice g.r.A g.r.L.length g.r.c) s.d v0 v1 (by omega) v5 u.val
        have p3 : (s.d == s.d) = true := beq_self_eq_true _
        obtain ⟨p1, hp1⟩ : ∃ p, (g.s.x + g.s.d == s.x) = p := ⟨_, rfl⟩
        obtain ⟨p2, hp2⟩ : ∃ p, (g.s.y == s.y) = p := ⟨_, rfl⟩
        have hN : Nxt g.s s = (p1 && p2) := by unfold Nxt; rw [hp1, hp2]
        have HN := Lib.hid hN
        clear hN C
        refine wp_region_sub (h + 1) (by kernel_rfl) (by kernel_rfl) ?_
        repeat (first | go_big_quiet_step ((go_at_call 73; exact sub_of _ hsz (CN _))) | quiet_step ((go_at_call 73; exact sub_of _ hsz (CN _))))
        refine wpQuiet_nil ?_
        rintro w4 ⟨uu, hu⟩; have hb4 := uu.ok
        have e0' := E0 uu
        have e1' := E1 uu
        have e2' := E2 uu
        have c0' := C0 uu
        have c1'' := C1 uu
        have c2' := C2 uu
        have c3' := C3 uu
        rw [← hu] at hb4 e0' e1' e2' c0' c1'' c2' c3'
        clear hu uu E0 E1 E2 C0 C1 C2 C3 CN e0 e1 e2 c0 c1' c2 c3
        have hz4 := hb4.size
        have hS4 := hS2.keep (hb4.mono (by omega))
        have hrow4 := hS4.inner.own g.r (by simp [rowsG])
        have hB4 := hB2.trans (hb4.mono (by omega))
        have hw4 : w.heap.size ≤ w4.heap.size := by omega
        have hh4 : h < w4.heap.size := by omega
        clear hS2 hB2 hb4 hrow w1
        have hno : Nxt g.s s = false → ∀ gg : Gp, gg = ⟨s, ⟨some ⟨w4.heap.size, 0, none⟩, 1, [s.d]⟩⟩ → asG (Q ++ [g] ++ [gg]) = grps (L.take (k + 1)) := fun hN gg e => by
          subst e
          rw [HSU.out, asG_app (Q ++ [g]), asG_app Q]
          exact (gstep_new (asG Q) (g.s, g.r.L) s hN).symm
        have hyes : Nxt g.s s = true → ∀ (A : Option Addr) (c : Nat), asG (Q ++ [⟨s, ⟨A, c, g.r.L ++ [s.d]⟩⟩]) = grps (L.take (k + 1)) := fun hN A c => by
          rw [HSU.out, asG_app Q, asG_app Q]
          exact (gstep_on (asG Q) (g.s, g.r.L) s hN).symm
        have HNO := Lib.hid hno
        have HYE := Lib.hid hyes
        have hbl : (m + 1) + 1 ≤ maxLen := by unfold maxLen; omega
        have hby : ((m + 1) + 1) * 48 ≤ 140737488355328 := by omega
        have hbl2 : g.r.L.length + 1 ≤ maxLen := by unfold maxLen; omega
        have hby2 : (g.r.L.length + 1) * 8 ≤ 140737488355328 := by omega
        clear hno hyes
        rcases (by cases p1 <;> cases p2 <;> simp : (p1 && p2) = true ∧ p1 = true ∧ p2 = true ∨ (p1 && p2) = false) with ⟨hp, rfl, rfl⟩ | hp
        · have hN : Nxt g.s s = true := HN.out.trans hp
          have HN2 := Lib.hid hN
          clear hN hp
          have hroom : ∀ k, (Value.slice g.r.A g.r.L.length g.r.c).ownBlock = some k → w.heap.size ≤ k := fun k hk => (hrow4.lt k hk).1
          have hgr : ∀ k, (Value.slice g.r.A g.r.L.length g.r.c).ownBlock = some k → (Value.slice (some ⟨g0, 0, none⟩) (m + 1) c1).ownBlock ≠ some k := fun k hk e => hS4.away g.r (by simp [rowsG]) k hk e
          have hg4 : g0 < w4.heap.size := by omega
          have hneh : some h ≠ (Value.slice g.r.A g.r.L.length g.r.c).ownBlock := fun e => by have := hlow h (.inr ⟨g.r, by simp [rowsG], e.symm⟩); omega
          go_wp2_with fail
          go_region_law (first | (refine app_step rfl _ _ _ rfl w.heap.size 3 i0 (.int .i64 0) 1 8 Tryz.underlying32 hi hz0 hz1 hzb rfl (by decide) (.slice g.r.A g.r.L.length g.r.c) g.r.L.length _ rfl (hrow4.drew.alloc _) (some ⟨w4.heap.size, 0, none⟩) 1 1 [.int .i64 s.d] rfl rfl (.inr ⟨_, rfl, new1 _ _ _⟩) (one1 _ rfl) hbl2 hby2 (by simp; omega) ?_; intro v' w6 hown6 hgrow hv6; obtain ⟨A6, c6, rfl⟩ := own_val hown6; have ho6 := own_far (hS4.outer.drew.alloc (.cells #[.int .i64 s.d] 3)) hgrow (fun k hk he => hgr k he hk); obtain ⟨x0, y0⟩ := own_some ho6 (j := m * 4) (by omega); obtain ⟨x1, y1⟩ := own_some ho6 (j := m * 4 + 1) (by omega); obtain ⟨x2, y2⟩ := own_some ho6 (j := m * 4 + 2) (by omega); obtain ⟨x3, y3⟩ := own_some ho6 (j := m * 4 + 3) (by omega); have z0 := ho6.frozenAt (m * 4); have z1 := ho6.frozenAt (m * 4 + 1); have z2 := ho6.frozenAt (m * 4 + 2); have z3 := ho6.frozenAt (m * 4 + 3); have s0 := farC hgrow (a := ⟨h, 0, none⟩) hh4 hneh e0'; have s1 := farC hgrow (a := ⟨h, 1, none⟩) hh4 hneh e1'; have s2 := farC hgrow (a := ⟨h, 2, none⟩) hh4 hneh e2'; clear ho6))
          all_goals
            have HS := hS4.again (behind w4 _) hgrow hown6 hv6 HLQ.out
            have hgb := (own_lt hS4.outer).1
            have hB7 := ((((((hB4.trans ((behind w4 _).mono hw4)).grown hgrow (by simp; omega) hroom).setCell (p := ⟨g0, m * 4, none⟩) hgb (.int .i64 s.x)).setCell (p := ⟨g0, m * 4 + 1, none⟩) hgb (.int .i64 s.y)).setCell (p := ⟨g0, m * 4 + 2, none⟩) hgb (.int .i64 s.d)).setCell (p := ⟨g0, m * 4 + 3, none⟩) hgb (.slice A6 (g.r.L.length + 1) c6))
            clear hgrow hown6 hv6 y0 y1 y2 y3 z0 z1 z2 z3 s0 s1 s2
            go_wp2_with fail
            go_roundw
            case rel => exact ⟨k + 1, _, m + 1, c1, _, by omega, by go_num, rfl, HYE.out HN2.out A6 c6, HS, hB7⟩
            case measure => simp [intOf]; omega
        · have hN : Nxt g.s s = false := HN.out.trans hp
          have HN2 := Lib.hid hN
          clear hN
          cases p1 <;> cases p2
          · go_wp2_with (at_builtin; refine app_list rfl _ _ _ rfl w.heap.size 73 j0 (.agg #[.int .i64 0, .int .i64 0, .int .i64 0, .slice none 0 0]) 4 48 Tryz.underlying66 hj hy0 hy1 hy2 rfl (by decide) (.slice (some ⟨g0, 0, none⟩) (m + 1) c1) (m + 1) _ rfl ((hS4.outer.alloc _).alloc _) (some ⟨w4.heap.size + 1, 0, none⟩) 1 1 [.int .i64 s.x, .int .i64 s.y, .int .i64 s.d, .slice (some ⟨w4.heap.size, 0, none⟩) 1 1] rfl rfl (.inr ⟨_, rfl, new4' _ _ _ _ _ _ _⟩) (flatG_one [⟨s, ⟨some ⟨w4.heap.size, 0, none⟩, 1, [s.d]⟩⟩]) hbl hby (by simp; omega) ?_; intro v' w6 hown6 hgrow hv6)
            have hB7 : Below w.heap.size w w6 := ((hB4.alloc hw4 _).alloc (by simp; omega) _).grown hgrow (by simp; omega) (fun k hk => (hS4.lt (.inl hk)).1)
            obtain ⟨A7, c7, rfl, hS7⟩ := (hS4.keep (((Below.refl _ _).alloc (Nat.le_refl _) _).alloc (by simp) _)).push ⟨s, ⟨some ⟨w4.heap.size, 0, none⟩, 1, [s.d]⟩⟩ ((World.ownsRow_lit w4 #[.int .i64 s.d] 1 hw4 (by unfold maxLen; omega) rfl).alloc _) (fun kk hkk hkb => by have := hlow kk hkb; simp [Rw.val, Value.ownBlock] at hkk; omega) hown6 hgrow hv6
            clear hgrow hown6 hv6 hS4
            go_wp2_with fail
            go_roundw
            case rel => exact ⟨k + 1, A7, m + 1 + 1, c7, _, by omega, by go_num, rfl, HNO.out HN2.out _ rfl, hS7, hB7⟩
            case measure => simp [intOf]; omega
          · go_wp2_with (at_builtin; refine app_list rfl _ _ _ rfl w.heap.size 73 j0 (.agg #[.int .i64 0, .int .i64 0, .int .i64 0, .slice none 0 0]) 4 48 Tryz.underlying66 hj hy0 hy1 hy2 rfl (by decide) (.slice (some ⟨g0, 0, none⟩) (m + 1) c1) (m + 1) _ rfl ((hS4.outer.alloc _).alloc _) (some ⟨w4.heap.size + 1, 0, none⟩) 1 1 [.int .i64 s.x, .int .i64 s.y, .int .i64 s.d, .slice (some ⟨w4.heap.size, 0, none⟩) 1 1] rfl rfl (.inr ⟨_, rfl, new4' _ _ _ _ _ _ _⟩) (flatG_one [⟨s, ⟨some ⟨w4.heap.size, 0, none⟩, 1, [s.d]⟩⟩]) hbl hby (by simp; omega) ?_; intro v' w6 hown6 hgrow hv6)
            have hB7 : Below w.heap.size w w6 := ((hB4.alloc hw4 _).alloc (by simp; omega) _).grown hgrow (by simp; omega) (fun k hk => (hS4.lt (.inl hk)).1)
            obtain ⟨A7, c7, rfl, hS7⟩ := (hS4.keep (((Below.refl _ _).alloc (Nat.le_refl _) _).alloc (by simp) _)).push ⟨s, ⟨some ⟨w4.heap.size, 0, none⟩, 1, [s.d]⟩⟩ ((World.ownsRow_lit w4 #[.int .i64 s.d] 1 hw4 (by unfold maxLen; omega) rfl).alloc _) (fun kk hkk hkb => by have := hlow kk hkb; simp [Rw.val, Value.ownBlock] at hkk; omega) hown6 hgrow hv6
            clear hgrow hown6 hv6 hS4
            go_wp2_with fail
            go_roundw
            case rel => exact ⟨k + 1, A7, m + 1 + 1, c7, _, by omega, by go_num, rfl, HNO.out HN2.out _ rfl, hS7, hB7⟩
            case measure => simp [intOf]; omega
          · go_wp2_with (at_builtin; refine app_list rfl _ _ _ rfl w.heap.size 73 j0 (.agg #[.int .i64 0, .int .i64 0, .int .i64 0, .slice none 0 0]) 4 48 Tryz.underlying66 hj hy0 hy1 hy2 rfl (by decide) (.slice (some ⟨g0, 0, none⟩) (m + 1) c1) (m + 1) _ rfl ((hS4.outer.alloc _).alloc _) (some ⟨w4.heap.size + 1, 0, none⟩) 1 1 [.int .i64 s.x, .int .i64 s.y, .int .i64 s.d, .slice (some ⟨w4.heap.size, 0, none⟩) 1 1] rfl rfl (.inr ⟨_, rfl, new4' _ _ _ _ _ _ _⟩) (flatG_one [⟨s, ⟨some ⟨w4.heap.size, 0, none⟩, 1, [s.d]⟩⟩]) hbl hby (by simp; omega) ?_; intro v' w6 hown6 hgrow hv6)
            have hB7 : Below w.heap.size w w6 := ((hB4.alloc hw4 _).alloc (by simp; omega) _).grown hgrow (by simp; omega) (fun k hk => (hS4.lt (.inl hk)).1)
            obtain ⟨A7, c7, rfl, hS7⟩ := (hS4.keep (((Below.refl _ _).alloc (Nat.le_refl _) _).alloc (by simp) _)).push ⟨s, ⟨some ⟨w4.heap.size, 0, none⟩, 1, [s.d]⟩⟩ ((World.ownsRow_lit w4 #[.int .i64 s.d] 1 hw4 (by unfold maxLen; omega) rfl).alloc _) (fun kk hkk hkb => by have := hlow kk hkb; simp [Rw.val, Value.ownBlock] at hkk; omega) hown6 hgrow hv6
            clear hgrow hown6 hv6 hS4
            go_wp2_with fail
            go_roundw
            case rel => exact ⟨k + 1, A7, m + 1 + 1, c7, _, by omega, by go_num, rfl, HNO.out HN2.out _ rfl, hS7, hB7⟩
            case measure => simp [intOf]; omega
          · simp at hp
    · obtain rfl : k = L.length := by omega
      rw [List.take_of_length_le (Nat.le_refl _)] at hM
      go_wp2_with fail
      go_ret
      exact RetG.mk hM hS hbr
end Go.Proofs.YtfkifcjjkaenhaaGreatDoor
