/- The mean of the cuts: the program's and the model's. -/
import Derived.Test.YtchabjmdjpfkfaaCnt
import Derived.Test.YtchabjmdjpfkfaaSumL
set_option linter.all false
namespace Go.Proofs.Ytchabjmdjpfkfaa
open Go.RowKit
theorem implGcdB (a b : Nat) (w : World) (ha : a ≤ 4611686018427387904) (hb : b ≤ 4611686018427387904) :
    Calls Try.prog 107 #[.int .i64 a, .int .i64 b] w fun e w' => e = .returned (.int .i64 (Nat.gcd a b : Nat)) ∧ Below w.heap.size w w' := by
  go_enter Try.func107, Try.ntmps107
  go_wp2_with fail
  go_loopw [0, 1] (fun u v wr => ∃ p q : Nat, u = .int .i64 p ∧ v = .int .i64 q ∧ p ≤ 4611686018427387904 ∧ q ≤ 4611686018427387904 ∧ Nat.gcd p q = Nat.gcd a b ∧ Below w.heap.size w wr) (fun _ v _ => (intOf v).toNat)
  case atStart => exact ⟨a, b, rfl, rfl, ha, hb, rfl, Below.refl _ _⟩
  case round =>
    obtain ⟨p, q, rfl, rfl, hp, hq, hg, hbr⟩ := hrel
    by_cases hlt : q = 0
    · subst hlt
      go_wp2_with fail
      go_ret
      exact ⟨by rw [← hg]; simp, hbr⟩
    · have h0 : (q : Int) ≠ 0 := by omega
      have h1 : (0 : Int) < (q : Int) := by omega
      have hmq : p % q < q := Nat.mod_lt _ (by omega)
      have hmg : q.gcd (p % q) = a.gcd b := by rw [Nat.gcd_comm, ← Nat.gcd_rec, Nat.gcd_comm]; exact hg
      go_wp2_with fail
      go_region
      go_wp2_with fail
      refine ⟨⟨q, p % q, rfl, rfl, hq, by omega, hmg, hbr.drew⟩, ?_⟩
      exact hmq

theorem specGcdB (a b : Nat) (w : World) (ha : a ≤ 4611686018427387904) (hb : b ≤ 4611686018427387904) :
    Calls Try.prog 61 #[.int .i64 a, .int .i64 b] w fun e w' => e = .returned (.int .i64 (Nat.gcd a b : Nat)) ∧ Below w.heap.size w w' := by
  go_enter Try.func61, Try.ntmps61
  go_wp2_with fail
  go_loopw [0, 1] (fun u v wr => ∃ p q : Nat, u = .int .i64 p ∧ v = .int .i64 q ∧ p ≤ 4611686018427387904 ∧ q ≤ 4611686018427387904 ∧ Nat.gcd p q = Nat.gcd a b ∧ Below w.heap.size w wr) (fun _ v _ => (intOf v).toNat)
  case atStart => exact ⟨a, b, rfl, rfl, ha, hb, rfl, Below.refl _ _⟩
  case round =>
    obtain ⟨p, q, rfl, rfl, hp, hq, hg, hbr⟩ := hrel
    by_cases hlt : q = 0
    · subst hlt
      go_wp2_with fail
      go_ret
      exact ⟨by rw [← hg]; simp, hbr⟩
    · have h0 : (q : Int) ≠ 0 := by omega
      have h1 : (0 : Int) < (q : Int) := by omega
      have hmq : p % q < q := Nat.mod_lt _ (by omega)
      have hmg : q.gcd (p % q) = a.gcd b := by rw [Nat.gcd_comm, ← Nat.gcd_rec, Nat.gcd_comm]; exact hg
      go_wp2_with fail
      go_region
      go_wp2_with fail
      refine ⟨⟨q, p % q, rfl, rfl, hq, by omega, hmg, hbr.drew⟩, ?_⟩
      exact hmq

theorem quoB {x : Int} {g : Nat} (h0 : 0 ≤ x) (h1 : x ≤ 4611686018427387904) : IntKind.i64.wrap (x.tdiv (g : Int)) = x / (g : Int) := by
  rw [Int.tdiv_eq_ediv_of_nonneg h0]
  by_cases hg : g = 0
  · subst hg; simp; exact IntWalk.i64_in 0 (by omega)
  · have a := Int.ediv_nonneg h0 (show (0 : Int) ≤ (g : Int) by omega)
    have b := Int.ediv_le_self (g : Int) h0
    exact IntWalk.i64_in _ (by omega)
theorem quoB2 {x : Int} {g : Nat} (h0 : 0 ≤ x) (h1 : x ≤ 4611686018427387904) : wrap64 (x / (g : Int)) = x / (g : Int) := by
  have e := quoB (g := g) h0 h1
  rw [Int.tdiv_eq_ediv_of_nonneg h0] at e
  rw [← IntWalk.i64_left]
  exact e

set_option maxRecDepth 100000 in
theorem lowestB (a b : Nat) (w : World) (ha : 1 ≤ a ∧ a ≤ 4611686018427387904) (hb : 1 ≤ b ∧ b ≤ 4611686018427387904) :
    Calls Try.prog 65 #[.int .i64 a, .int .i64 b] w fun e w' => e = .returned (.tuple #[.int .i64 ((a : Int) / (Nat.gcd a b : Int)), .int .i64 ((b : Int) / (Nat.gcd a b : Int))]) ∧ Below w.heap.size w w' := by
  obtain ⟨g, hg⟩ : ∃ g, Nat.gcd a b = g := ⟨_, rfl⟩
  have hg0 : 1 ≤ g := by rw [← hg]; exact Nat.gcd_pos_of_pos_left _ (by omega)
  have hc := implGcdB a b w ha.2 hb.2
  rw [hg] at hc ⊢
  have HC := Lib.hid hc
  clear hc hg
  have e0 : wrap64 ((a : Int) / (g : Int)) = (a : Int) / (g : Int) := quoB2 (by omega) (by omega)
  have e1 : wrap64 ((b : Int) / (g : Int)) = (b : Int) / (g : Int) := quoB2 (by omega) (by omega)
  have g0 : (g : Int) ≠ 0 := by omega
  go_enter Try.func65, Try.ntmps65
  go_wp2_with fail
  refine HC.out.mono ?_
  rintro e w2 ⟨rfl, hb2⟩
  clear HC
  go_wp2_with fail
  go_region
  go_wp2_with fail
  rw [e0, e1]
  go_ret2
  exact ⟨rfl, hb2.drew⟩

/-- The squares of all cuts, and the cuts. -/
noncomputable def mP (W H : Int) : Nat := ((allF W.toNat H.toNat).map List.length).sum
noncomputable def mQ (W H : Int) : Nat := (allF W.toNat H.toNat).length
theorem sum_ge (Ls : List (List Sq)) (h : ∀ L ∈ Ls, 0 < L.length) : Ls.length ≤ (Ls.map List.length).sum := by
  induction Ls with
  | nil => simp
  | cons L r ih =>
    have := ih fun M hM => h M (List.mem_cons_of_mem _ hM)
    have := h L List.mem_cons_self
    simp only [List.length_cons, List.map_cons, List.sum_cons]
    omega
theorem sum_le36 (Ls : List (List Sq)) (h : ∀ L ∈ Ls, L.length ≤ 36) : (Ls.map List.length).sum ≤ 36 * Ls.length := by
  induction Ls with
  | nil => simp
  | cons L r ih =>
    have := ih fun M hM => h M (List.mem_cons_of_mem _ hM)
    have := h L List.mem_cons_self
    simp only [List.length_cons, List.map_cons, List.sum_cons]
    omega
theorem allF_facts {m n : Nat} (hm : 1 ≤ m ∧ m ≤ 6) (hn : 1 ≤ n ∧ n ≤ 6) : (∀ L ∈ allF m n, 0 < L.length ∧ L.length ≤ m * n) ∧ m * n ≤ 36 ∧ 1 ≤ (allF m n).length ∧ (allF m n).length ≤ 68719476736 := by
  have h36 : m * n ≤ 36 := Nat.le_trans (Nat.mul_le_mul hm.2 hn.2) (by decide)
  have h1 : 1 ≤ m * n := Nat.mul_pos (by omega) (by omega)
  refine ⟨fun L hL => ?_, h36, ?_, ?_⟩
  · have := fills_len hm.1 (Fl.start m (H := n) (by omega)) L hL
    rw [free_start] at this
    exact ⟨this.2.1 (by omega) (by omega), this.1⟩
  · exact List.length_pos_iff.2 (fills_some hm.1 (by decide) (Fl.start m (H := n) (by omega)))
  · have := fills_few (m := 6) (k := m * n) hm.1 (Fl.start m (H := n) (by omega))
    rw [free_start] at this
    exact Nat.le_trans this (Nat.le_trans (Nat.pow_le_pow_right (by decide) h36) (by decide))
theorem mean_facts {m n : Nat} (hm : 1 ≤ m ∧ m ≤ 6) (hn : 1 ≤ n ∧ n ≤ 6) : (1 ≤ mP m n ∧ mP m n ≤ 4611686018427387904) ∧ (1 ≤ mQ m n ∧ mQ m n ≤ 4611686018427387904) ∧ wsumF (byM m n 6) = (mQ m n : Nat) ∧ wtell (fun L => (L.length : Int)) (allF m n) = (mP m n : Nat) ∧ wmean (byM m n 6) 0 0 = (mP m n : Nat) := by
  obtain ⟨h1, h2, h3, h4⟩ := allF_facts hm hn
  have p1 := sum_ge (allF m n) fun L hL => (h1 L hL).1
  have p2 := sum_le36 (allF m n) fun L hL => Nat.le_trans (h1 L hL).2 h2
  have eP : mP m n = ((allF m n).map List.length).sum := rfl
  have eQ : mQ m n = (allF m n).length := rfl
  refine ⟨by omega, by omega, ?_, ?_, ?_⟩
  · show wsumF (tally 0 (List.replicate (m * n) 0) (allF m n)) = _
    rw [tally_wsum 0 (m * n) (allF m n) (fun L hL => by have := h1 L hL; omega), eQ]
    exact w_in (by omega) (by omega)
  · rw [wtell_len, eP]
    exact w_in (by omega) (by omega)
  · show wmean (tally 0 (List.replicate (m * n) 0) (allF m n)) 0 0 = _
    rw [tally_wmean (m * n) (allF m n) (fun L hL => by have := h1 L hL; omega), eP]
    exact w_in (by omega) (by omega)
noncomputable def meanA (W H : Int) : Int := if okF W H then (mP W H : Int) / (Nat.gcd (mP W H) (mQ W H) : Int) else 0
noncomputable def meanB (W H : Int) : Int := if okF W H then (mQ W H : Int) / (Nat.gcd (mP W H) (mQ W H) : Int) else 0
set_option maxRecDepth 100000 in
set_option maxHeartbeats 2000000 in
theorem implMean_any (W H : Int) (w : World) : Calls Try.prog 23 #[.int .i64 W, .int .i64 H] w fun e w' => e = .returned (.tuple #[.int .i64 (meanA W H), .int .i64 (meanB W H), .bool (okF W H)]) ∧ Below w.heap.size w w' := by
  have C := implCnt_any W H w
  cases hok : okF W H with
  | true =>
    have h := okF_iff.1 hok
    obtain ⟨m, rfl⟩ := Int.eq_ofNat_of_zero_le (show 0 ≤ W by omega)
    obtain ⟨n, rfl⟩ := Int.eq_ofNat_of_zero_le (show 0 ≤ H by omega)
    obtain ⟨hP, hQ, e1, e2, _⟩ := mean_facts (m := m) (n := n) (by omega) (by omega)
    have eA : meanA m n = (mP m n : Int) / (Nat.gcd (mP m n) (mQ m n) : Int) := by unfold meanA; rw [if_pos hok]
    have eB : meanB m n = (mQ m n : Int) / (Nat.gcd (mP m n) (mQ m n) : Int) := by unfold meanB; rw [if_pos hok]
    rw [hok, byF_yes hok, e1] at C
    have CL : ∀ w, Calls Try.prog 65 #[.int .i64 (mP m n : Nat), .int .i64 (mQ m n : Nat)] w fun e w' => e = .returned (.tuple #[.int .i64 (meanA m n), .int .i64 (meanB m n)]) ∧ Below w.heap.size w w' := fun w => by
      rw [eA, eB]
      exact lowestB _ _ w hP hQ
    have HE := Lib.hid e2
    have hm : 1 ≤ m ∧ m ≤ 6 := by omega
    have hn : 1 ≤ n ∧ n ≤ 6 := by omega
    obtain ⟨p, hp⟩ : ∃ p, mP m n = p := ⟨_, rfl⟩
    obtain ⟨q, hq⟩ : ∃ q, mQ m n = q := ⟨_, rfl⟩
    obtain ⟨a, ha⟩ : ∃ a, meanA m n = a := ⟨_, rfl⟩
    obtain ⟨b, hb⟩ : ∃ b, meanB m n = b := ⟨_, rfl⟩
    have HP := Lib.hid hp
    simp only [hp, hq, ha, hb] at CL C ⊢
    have HCL := Lib.hid CL
    clear hok h hP hQ e1 e2 eA eB CL hp hq ha hb
    go_enter Try.func23, Try.ntmps23
    go_wp2_with fail
    refine C.mono ?_
    rintro e w2 ⟨rfl, hb2⟩
    go_wp2_with fail
    refine (fillings_any m n w2).mono ?_
    rintro e w3 ⟨rfl, hw3⟩
    have hb3 : Below w2.heap.size w2 w3 := by rw [hw3]; exact ((Below.refl _ _).alloc (Nat.le_refl _) _).alloc (by simp) _
    have cw : w3.cell? ⟨w2.heap.size, 0, none⟩ = some (.int .i64 m) := by rw [hw3, World.cell?_alloc_lt _ _ _ (by simp)]; simp [go_sem]
    have ch : w3.cell? ⟨w2.heap.size + 1, 0, none⟩ = some (.int .i64 n) := by rw [hw3]; simp [go_sem]
    clear hw3
    have CS := sumC_len m n hm hn w2.heap.size (w2.heap.size + 1) (fun L => (L.length : Int)) w3 cw ch (fun V L A c _ _ _ => lenC_any m n A L.length c V)
    rw [HE.out, HP.out] at CS
    have HCS := Lib.hid CS
    clear CS
    go_wp2_with fail
    refine HCS.out.mono ?_
    rintro e w4 ⟨rfl, hb4⟩
    go_wp2_with fail
    refine (HCL.out _).mono ?_
    rintro e w5 ⟨rfl, hb5⟩
    go_wp2_with fail
    have hB := hb2.trans ((hb3.trans ((hb4.trans (hb5.mono hb4.size)).mono hb3.size)).mono hb2.size)
    refine bodyPost_ret (v := .tuple #[.int .i64 a, .int .i64 b, .bool true]) (by simp [results, Try.results23, go_sem]) rfl ?_
    exact ⟨rfl, hB⟩
  | false =>
    have eA : meanA W H = 0 := by unfold meanA; rw [if_neg (by rw [hok]; decide)]
    have eB : meanB W H = 0 := by unfold meanB; rw [if_neg (by rw [hok]; decide)]
    rw [hok] at C
    rw [eA, eB]
    go_enter Try.func23, Try.ntmps23
    go_wp2_with fail
    refine C.mono ?_
    rintro e w2 ⟨rfl, hb2⟩
    go_wp2_with fail
    refine bodyPost_ret (v := .tuple #[.int .i64 0, .int .i64 0, .bool false]) (by simp [results, Try.results23, go_sem]) rfl ?_
    exact ⟨rfl, hb2⟩
theorem wmean_snoc (L : List Int) (u : Int) : ∀ i a, wmean (L ++ [u]) i a = wrap64 (wmean L i a + wrap64 ((((i + L.length : Nat) : Int) + 1) * u)) := by
  induction L with
  | nil => intro i a; simp [wmean]
  | cons n r ih =>
    intro i a
    rw [List.cons_append]
    show wmean (r ++ [u]) (i + 1) _ = _
    rw [ih]
    show _ = wrap64 (wmean r (i + 1) _ + _)
    congr 3
    simp only [List.length_cons]
    congr 1
    omega
theorem wmean_take (R : List Int) (k : Nat) (u : Int) (h : R[k]? = some u) : wmean (R.take (k + 1)) 0 0 = wrap64 (wmean (R.take k) 0 0 + wrap64 (((k : Int) + 1) * u)) := by
  rw [List.take_add_one, h]
  show wmean (R.take k ++ [u]) 0 0 = _
  rw [wmean_snoc, List.length_take, Nat.zero_add]
  have := (List.getElem?_eq_some_iff.1 h).1
  rw [Nat.min_eq_left (by omega)]
set_option maxRecDepth 100000 in
set_option maxHeartbeats 4000000 in
theorem specMean_any (W H : Int) (w : World) : Calls Try.prog 22 #[.int .i64 W, .int .i64 H] w fun e w' => e = .returned (.tuple #[.int .i64 (meanA W H), .int .i64 (meanB W H), .bool (okF W H)]) ∧ Below w.heap.size w w' := by
  have hs := ctSize_any W H w
  cases hok : okF W H with
  | true =>
    have h := okF_iff.1 hok
    obtain ⟨m, rfl⟩ := Int.eq_ofNat_of_zero_le (show 0 ≤ W by omega)
    obtain ⟨n, rfl⟩ := Int.eq_ofNat_of_zero_le (show 0 ≤ H by omega)
    obtain ⟨hP, hQ, e1, _, e3⟩ := mean_facts (m := m) (n := n) (by omega) (by omega)
    have eA : meanA m n = (mP m n : Int) / (Nat.gcd (mP m n) (mQ m n) : Int) := by unfold meanA; rw [if_pos hok]
    have eB : meanB m n = (mQ m n : Int) / (Nat.gcd (mP m n) (mQ m n) : Int) := by unfold meanB; rw [if_pos hok]
    rw [hok] at hs
    have C := ctBy_any m n 6 (by omega) (by omega) (by omega) w
    have hl := byM_len m n 6
    have h36 := (allF_facts (m := m) (n := n) (by omega) (by omega)).2.1
    have g1 : 1 ≤ Nat.gcd (mP m n) (mQ m n) := Nat.gcd_pos_of_pos_left _ (by omega)
    have CG : ∀ w, Calls Try.prog 61 #[.int .i64 (mP m n : Nat), .int .i64 (mQ m n : Nat)] w fun e w' => e = .returned (.int .i64 (Nat.gcd (mP m n) (mQ m n) : Nat)) ∧ Below w.heap.size w w' := fun w => specGcdB _ _ w hP.2 hQ.2
    rw [eA, eB]
    obtain ⟨R, hR⟩ : ∃ R, byM m n 6 = R := ⟨_, rfl⟩
    obtain ⟨p, hp⟩ : ∃ p, mP m n = p := ⟨_, rfl⟩
    obtain ⟨q, hq⟩ : ∃ q, mQ m n = q := ⟨_, rfl⟩
    obtain ⟨g, hg⟩ : ∃ g, Nat.gcd p q = g := ⟨_, rfl⟩
    simp only [hp, hq, hR, hg] at C hl g1 CG hP hQ e1 e3 ⊢
    have q0 : wrap64 ((p : Int) / (g : Int)) = (p : Int) / (g : Int) := quoB2 (by omega) (by omega)
    have q1 : wrap64 ((q : Int) / (g : Int)) = (q : Int) / (g : Int) := quoB2 (by omega) (by omega)
    have HCG := Lib.hid CG
    have HL := Lib.hid (show R.length ≤ 36 by omega)
    have E1 := Lib.hid e1
    have E3 := Lib.hid e3
    clear hok h hP hQ e1 e3 eA eB CG hR hp hq hg hl h36
    go_enter Try.func22, Try.ntmps22
    go_wp2_with fail
    refine hs.mono ?_
    rintro e w' ⟨rfl, rfl⟩
    go_wp2_with fail
    refine C.mono ?_
    rintro e w2 ⟨A, c, rfl, ho, hb⟩
    have hL := ints_of_own ho
    go_wp2_with fail
    go_loopw [7, 8, 20] (fun a s i wr => ∃ k : Nat, k ≤ R.length ∧ i = .int .i64 k ∧ a = .int .i64 (wmean (R.take k) 0 0) ∧ s = .int .i64 (wsumF (R.take k)) ∧ Below w2.heap.size w2 wr) (fun _ _ i _ => R.length - (intOf i).toNat)
    case atStart => exact ⟨0, Nat.zero_le _, rfl, rfl, rfl, Below.refl _ _⟩
    case round =>
      obtain ⟨k, hk, rfl, rfl, rfl, hbr⟩ := hrel
      have hlb := HL.out
      by_cases hlt : k < R.length
      · obtain ⟨u, hu⟩ : ∃ u, R[k]? = some u := ⟨_, List.getElem?_eq_getElem hlt⟩
        obtain ⟨b, off, rfl, hbb, d0⟩ := hL k u hu
        have d0r : wr.cell? ⟨b, off + k, none⟩ = some (.int .i64 u) := (hbr.cell (p := ⟨b, _, none⟩) hbb).trans d0
        have k0 : (0 : Int) ≤ (k : Int) := by omega
        have k1 : (k : Int) < (R.length : Int) := by omega
        have HT := Lib.hid (wsumF_take R k u hu)
        have HM := Lib.hid (wmean_take R k u hu)
        clear hL hu d0 ho
        go_wp2_with fail
        go_roundw
        case rel => exact ⟨k + 1, by omega, by go_num, by rw [HM.out], by rw [HT.out], hbr⟩
        case measure => simp [intOf]; omega
      · obtain rfl : k = R.length := by omega
        have e : R.take R.length = R := List.take_length
        rw [e, E1.out, E3.out]
        have g0 : (g : Int) ≠ 0 := by omega
        clear hL e ho
        go_wp2_with fail
        refine (HCG.out _).mono ?_
        rintro e w4 ⟨rfl, hb4⟩
        go_wp2_with fail
        go_region
        go_wp2_with fail
        rw [q0, q1]
        have hB := hb.trans ((hbr.trans (hb4.mono hbr.size)).mono hb.size)
        refine bodyPost_ret (v := .tuple #[.int .i64 ((p : Int) / (g : Int)), .int .i64 ((q : Int) / (g : Int)), .bool true]) (by simp [results, Try.results22, go_sem]) rfl ?_
        exact ⟨rfl, hB.drew⟩
  | false =>
    have eA : meanA W H = 0 := by unfold meanA; rw [if_neg (by rw [hok]; decide)]
    have eB : meanB W H = 0 := by unfold meanB; rw [if_neg (by rw [hok]; decide)]
    rw [hok] at hs
    rw [eA, eB]
    go_enter Try.func22, Try.ntmps22
    go_wp2_with fail
    refine hs.mono ?_
    rintro e w' ⟨rfl, rfl⟩
    go_wp2_with fail
    refine bodyPost_ret (v := .tuple #[.int .i64 0, .int .i64 0, .bool false]) (by simp [results, Try.results22, go_sem]) rfl ?_
    exact ⟨rfl, Below.refl _ _⟩
end Go.Proofs.Ytchabjmdjpfkfaa
