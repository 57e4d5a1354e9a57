/- FtE, FtF, FtT: texts in one. -/
import Derived.Test.YtdpbjmdgjhleeaaFtQ
import Derived.Test.YtdpbjmdgjhleeaaFtP
import Derived.Test.YtdpbjmdgjhleeaaSam
import Derived.BigQuiet
import Derived.Laws.IdiomCopy
import Derived.Test.YtdpbjmdgjhleeaaCoM
import Derived.Test.YtdpbjmdgjhleeaaSuM
import Derived.Test.YtdpbjmdgjhleeaaTxM
set_option linter.all false
namespace Go.Proofs.Ytdpbjmdgjhleeaa
open Go.RowKit

theorem cutsV_set (W H : Int) (U : List CV) (m : Nat) (x : CV) (hm : m < U.length) : (((cutsV W H U).set (m * 3) (.int .i64 W)).set (m * 3 + 1) (.int .i64 H)).set (m * 3 + 2) (.slice x.2.1 x.1.length x.2.2) = cutsV W H (U.set m x) := by
  apply List.ext_getElem?
  intro t
  have hl := cutsV_len W H U
  have h1 := fm_get (cutV W H) (cutV_len W H) U (t / 3) (t % 3) (by omega)
  have h2 := fm_get (cutV W H) (cutV_len W H) (U.set m x) (t / 3) (t % 3) (by omega)
  have e : t / 3 * 3 + t % 3 = t := by omega
  rw [e] at h1 h2
  have e1 : (cutsV W H U)[t]? = U[t / 3]?.bind fun y => (cutV W H y)[t % 3]? := h1
  have e2 : (cutsV W H (U.set m x))[t]? = (U.set m x)[t / 3]?.bind fun y => (cutV W H y)[t % 3]? := h2
  rw [e2, List.getElem?_set, List.getElem?_set, List.getElem?_set, List.getElem?_set, List.length_set, List.length_set, hl, e1]
  by_cases hi : m = t / 3
  · have h3 : t % 3 = 0 ∨ t % 3 = 1 ∨ t % 3 = 2 := by omega
    rw [if_pos hi, if_pos hm]
    rcases h3 with h | h | h
    · rw [if_neg (by omega), if_neg (by omega), if_pos (by omega), if_pos (by omega), h]; rfl
    · rw [if_neg (by omega), if_pos (by omega), if_pos (by omega), h]; rfl
    · rw [if_pos (by omega), if_pos (by omega), h]; rfl
  · rw [if_neg (by omega), if_neg (by omega), if_neg (by omega), if_neg hi]
theorem own_setCells {base g n c size : Nat} {e : TypeId} : ∀ (vs : List Value) (o : Nat) (w : World) (xs : List Value), w.ownsRow base e size (.slice (some ⟨g, 0, none⟩) n c) n xs →
    ∃ xs', (w.setCells g o vs).ownsRow base e size (.slice (some ⟨g, 0, none⟩) n c) n xs' ∧ xs'.take o = xs.take o ∧ w.grownBy (w.setCells g o vs) (some g)
  | [], o, w, xs, h => ⟨xs, h, rfl, grown_refl _ _⟩
  | v :: r, o, w, xs, h => by
    obtain ⟨h1, h2⟩ := h.stored o v
    obtain ⟨xs', h3, h4, h5⟩ := own_setCells r (o + 1) _ _ h1
    refine ⟨xs', h3, ?_, grown_trans h2 h5⟩
    have := congrArg (List.take o) h4
    rw [List.take_take, List.take_take, Nat.min_eq_left (by omega), List.take_set_of_le (Nat.le_refl _)] at this
    exact this
theorem own_take {w : World} {base g n c size m : Nat} {e : TypeId} {xs : List Value} (h : w.ownsRow base e size (.slice (some ⟨g, 0, none⟩) n c) n xs) (hm : m ≤ n) : w.ownsRow base e size (.slice (some ⟨g, 0, none⟩) m c) m (xs.take (m * size)) := by
  rcases h.2 with ⟨h', _⟩ | ⟨g', cap, cur, hv, hbase, hh, h1, h2, h3, h4⟩
  · cases h'
  · cases hv
    have hle : m * size ≤ n * size := Nat.mul_le_mul_right _ hm
    refine ⟨by rw [List.length_take, h.1]; omega, .inr ⟨g, c, cur, rfl, hbase, hh, by omega, h2, h3, ?_⟩⟩
    rw [← h4, List.take_take, Nat.min_eq_left hle]
theorem run_clear_k {P : Program} (w : World) (t e ty : TypeId) (z : Value) (sz : Nat) (ht : P.underlying t = some (.slice e)) (hv : ∀ w, (zeroValue e).run P w = .ok z w) (hz : z.cells.size = sz) (h1 : ∀ v ∈ z.cells.toList, v.oneCell' = true) (b o n c : Nat) (hn : 0 < n) (hs : 0 < sz)
    (hc : ∀ j, j < n * sz → (w.cell? ⟨b, o + j, none⟩).isSome = true) (hf : ∀ j, j < n * sz → w.frozen? ⟨b, o + j, none⟩ = false) :
    (Builtin.clear_ #[t] ty #[.slice (some ⟨b, o, none⟩) n c]).run P w = .ok (.tuple #[]) (w.setCells b o (Builtin.zeroCells z.cells n).toList) := by
  have hl : (Builtin.zeroCells z.cells n).toList.length = n * sz := by simp [Builtin.zeroCells, hz]
  have hst := run_storeCells_cells (P := P) b o (Builtin.zeroCells z.cells n).toList 0 w (fun j hj => by rw [hl] at hj; simpa using hc j hj) (fun j hj => by rw [hl] at hj; simpa using hf j hj) (by
    intro v hv'
    simp only [Builtin.zeroCells, Array.toList_map, List.mem_map] at hv'
    obtain ⟨i, _, rfl⟩ := hv'
    have hi : i % z.cells.size < z.cells.size := Nat.mod_lt _ (by omega)
    rw [getElem!_pos z.cells _ hi]
    exact h1 _ (by simp))
  simp only [Nat.add_zero] at hst
  obtain ⟨m, rfl⟩ : ∃ m, n = m + 1 := ⟨n - 1, by omega⟩
  simp [Builtin.clear_, run_underlying ht, hv, hst]
theorem cutsV_take (W H : Int) (U : List CV) (m : Nat) (hm : m ≤ U.length) : (cutsV W H U).take (m * 3) = cutsV W H (U.take m) := by
  conv => lhs; rw [← List.take_append_drop m U, cutsV_app]
  rw [List.take_append_of_le_length (by rw [cutsV_len, List.length_take]; omega), List.take_of_length_le (by rw [cutsV_len, List.length_take]; omega)]
theorem take_set_snoc {α : Type} (U : List α) (m : Nat) (x : α) (hm : m < U.length) : (U.set m x).take (m + 1) = U.take m ++ [x] := by
  rw [List.take_add_one, List.take_set_of_le (Nat.le_refl _), List.getElem?_set_self hm]
  rfl
theorem zeroCut : ∀ w, (zeroValue 28).run Try.prog w = .ok (.agg #[.int .i64 0, .int .i64 0, .slice none 0 0]) w := fun _ => by kernel_rfl
set_option maxRecDepth 100000 in
set_option maxHeartbeats 16000000 in
theorem compactC_any (W H : Int) (A : Option Addr) (n c base : Nat) (T : List CV) (w : World) (hl : T.length = n) (hn : n ≤ 1048576) (hm : ∀ x ∈ T, x.1.length ≤ 1048576) (h : CL base W H T (.slice A n c) w) :
    Calls Try.prog 118 #[.slice A n c, .func (.func 75) #[] #[]] w fun e w' => e = .returned (.slice A (ddK (fun x : CV => x.1) T n).length c) ∧ CL base W H (ddK (fun x : CV => x.1) T n) (.slice A (ddK (fun x : CV => x.1) T n).length c) w' ∧ Below base w w' := by
  subst hl
  rcases Nat.lt_or_ge T.length 2 with hlt | hge
  · have hd : ddK (fun x : CV => x.1) T T.length = T := by
      rcases T with _ | ⟨x, _ | ⟨y, T⟩⟩
      · rfl
      · exact ddK_one rfl
      · simp at hlt; omega
    rw [hd]
    have HC := Lib.hid h
    have i1 : (T.length : Int) < 2 := by omega
    clear hd h hm
    go_enter Try.func118, Try.ntmps118
    go_wp2_with fail
    go_ret
    exact ⟨rfl, HC.out, Below.refl _ _⟩
  · obtain ⟨n, hnn⟩ : ∃ n, T.length = n := ⟨_, rfl⟩
    rw [hnn] at hn hge
    have hown := h.own
    rw [hnn] at hown h ⊢
    obtain ⟨g, rfl⟩ := own_form hown (by omega)
    have HM := Lib.hid hm
    have HN := Lib.hid hnn
    have hgb := (own_lt hown).1
    have hcap := own_cap hown
    have hSQ := h.sq
    have hcm : n ≤ c ∧ c ≤ maxLen := by
      rcases hown.2 with ⟨hv, _⟩ | ⟨g', cap, cur, hv, _, _, h1, h2, _⟩
      · cases hv
      · cases hv; exact ⟨h1, h2⟩
    unfold maxLen at hcm
    have i2 : (2 : Int) ≤ (n : Int) := by omega
    obtain ⟨R, hR⟩ : ∃ R, ddK (fun x : CV => x.1) T n = R := ⟨_, rfl⟩
    rw [hR]
    have HR := Lib.hid hR
    clear hm h hnn hR
    go_enter Try.func118, Try.ntmps118
    go_wp2_with fail
    go_loopw [5] (fun kv wr => ∃ k : Nat, k + 1 ≤ n ∧ kv = .int .i64 ((k : Int) + 1) ∧ ddK (fun x : CV => x.1) T (k + 1) = T.take (k + 1) ∧ wr.ownsRow base 28 3 (.slice (some ⟨g, 0, none⟩) n c) n (cutsV W H T) ∧ (∀ x ∈ T, wr.ownsRow base 85 3 (.slice x.2.1 x.1.length x.2.2) x.1.length (flat x.1)) ∧ Below base w wr) (fun kv _ => n - (intOf kv).toNat)
    case atStart => exact ⟨0, by omega, rfl, by
      have hlen := HN.out
      obtain ⟨x, hx⟩ : ∃ x, T[0]? = some x := ⟨_, List.getElem?_eq_getElem (by omega)⟩
      rw [ddK_one hx, List.take_add_one, hx]; rfl, hown, hSQ, Below.refl _ _⟩
    case round =>
      obtain ⟨k, hk, rfl, hdd, hown1, hSQ1, hbr⟩ := hrel
      clear hown hSQ
      have HSQ := Lib.hid hSQ1
      have HD := Lib.hid hdd
      clear hSQ1 hdd
      have hg := (own_lt hown1).2
      have k0 : (0 : Int) ≤ (k : Int) := by omega
      have k1 : (k : Int) < (n : Int) := by omega
      by_cases hlt : k + 1 < n
      · have k2 : (k : Int) + 1 < (n : Int) := by omega
        have k3 : (0 : Int) ≤ (k : Int) + 1 := by omega
        obtain ⟨x, hx⟩ : ∃ x, T[k + 1]? = some x := ⟨_, List.getElem?_eq_getElem (by have := HN.out; omega)⟩
        obtain ⟨y, hy⟩ : ∃ y, T[k]? = some y := ⟨_, List.getElem?_eq_getElem (by have := HN.out; omega)⟩
        have hxT := List.mem_of_getElem? hx
        have hyT := List.mem_of_getElem? hy
        have hlen := HN.out
        obtain ⟨c0, c1, c2⟩ : wr.cell? ⟨g, (k + 1) * 3, none⟩ = some (.int .i64 W) ∧ wr.cell? ⟨g, (k + 1) * 3 + 1, none⟩ = some (.int .i64 H) ∧ wr.cell? ⟨g, (k + 1) * 3 + 2, none⟩ = some (.slice x.2.1 x.1.length x.2.2) := by
          obtain ⟨h0, h1, h2⟩ := cutsV_get W H T (k + 1) x hx
          exact ⟨(hown1.cellAt _ (by omega)).trans h0, (hown1.cellAt _ (by omega)).trans h1, (hown1.cellAt _ (by omega)).trans h2⟩
        obtain ⟨d0, d1, d2⟩ : wr.cell? ⟨g, k * 3, none⟩ = some (.int .i64 W) ∧ wr.cell? ⟨g, k * 3 + 1, none⟩ = some (.int .i64 H) ∧ wr.cell? ⟨g, k * 3 + 2, none⟩ = some (.slice y.2.1 y.1.length y.2.2) := by
          obtain ⟨h0, h1, h2⟩ := cutsV_get W H T k y hy
          exact ⟨(hown1.cellAt _ (by omega)).trans h0, (hown1.cellAt _ (by omega)).trans h1, (hown1.cellAt _ (by omega)).trans h2⟩
        have hsx := HSQ.out x hxT
        have hsy := HSQ.out y hyT
        have hnx := HM.out x hxT
        have hny := HM.out y hyT
        obtain ⟨v, hv⟩ : ∃ v, dc (x.1 = y.1) = v := ⟨_, rfl⟩
        have D1 : ∀ u : Later wr.heap.size wr, Calls Try.prog 75 #[.agg #[.int .i64 W, .int .i64 H, .slice x.2.1 x.1.length x.2.2], .agg #[.int .i64 W, .int .i64 H, .slice y.2.1 y.1.length y.2.2]] u.val fun e w' => e = .returned (.bool v) ∧ Below u.val.heap.size u.val w' := fun u => by
          have := same_any W H W H x.2.1 y.2.1 _ _ x.2.2 y.2.2 x.1 y.1 u.val rfl rfl hnx hny (((sqs_of_own hsx).below u.ok).mono u.ok.size) (((sqs_of_own hsy).below u.ok).mono u.ok.size)
          rw [hv] at this
          exact this
        have F0 : ∀ u : Later wr.heap.size wr, u.val.cell? ⟨g, (k + 1) * 3, none⟩ = some (.int .i64 W) := fun u => (u.ok.cell (p := ⟨g, _, none⟩) hg).trans c0
        have F1 : ∀ u : Later wr.heap.size wr, u.val.cell? ⟨g, (k + 1) * 3 + 1, none⟩ = some (.int .i64 H) := fun u => (u.ok.cell (p := ⟨g, _, none⟩) hg).trans c1
        have F2 : ∀ u : Later wr.heap.size wr, u.val.cell? ⟨g, (k + 1) * 3 + 2, none⟩ = some (.slice x.2.1 x.1.length x.2.2) := fun u => (u.ok.cell (p := ⟨g, _, none⟩) hg).trans c2
        have F3 : ∀ u : Later wr.heap.size wr, u.val.cell? ⟨g, k * 3, none⟩ = some (.int .i64 W) := fun u => (u.ok.cell (p := ⟨g, _, none⟩) hg).trans d0
        have F4 : ∀ u : Later wr.heap.size wr, u.val.cell? ⟨g, k * 3 + 1, none⟩ = some (.int .i64 H) := fun u => (u.ok.cell (p := ⟨g, _, none⟩) hg).trans d1
        have F5 : ∀ u : Later wr.heap.size wr, u.val.cell? ⟨g, k * 3 + 2, none⟩ = some (.slice y.2.1 y.1.length y.2.2) := fun u => (u.ok.cell (p := ⟨g, _, none⟩) hg).trans d2
        have HX := Lib.hid hx
        have HY := Lib.hid hy
        clear hx hy c0 c1 c2 d0 d1 d2 hsx hsy hnx hny hlen
        have HV := Lib.hid hv
        clear hv
        cases v with
        | false =>
          have HV := Lib.hid HV.out
          go_wp2_with fail
          refine wp_region_sub wr.heap.size (by kernel_rfl) (by kernel_rfl) ?_
          iterate 11 (first | go_big_quiet_step ((go_at_call 75; with_reducible exact sub_of _ (Nat.le_refl _) (D1 _))) | quiet_step ((go_at_call 75; with_reducible exact sub_of _ (Nat.le_refl _) (D1 _))))
          refine wpQuiet_nil ?_
          rintro w2 ⟨uu, hu⟩
          have hb2 : Below wr.heap.size wr w2 := by rw [hu]; exact uu.ok
          clear hu uu D1 F0 F1 F2 F3 F4 F5
          have hne : x.1 ≠ y.1 := fun e => by have := HV.out; rw [dc_true e] at this; cases this
          have HNE := Lib.hid hne
          clear hne
          go_wp2_with fail
          go_roundw
          case rel => exact ⟨k + 1, by omega, by go_num, by rw [ddK_new HX.out HY.out HNE.out, HD.out, List.take_add_one (i := k + 1), HX.out]; rfl, own_keep hown1 hb2, fun z hz => own_keep (HSQ.out z hz) hb2, hbr.trans (hb2.mono (by omega))⟩
          case measure => simp [intOf]; omega
        | true =>
          have HV := Lib.hid HV.out
          go_wp2_with fail
          refine wp_region_sub wr.heap.size (by kernel_rfl) (by kernel_rfl) ?_
          iterate 11 (first | go_big_quiet_step ((go_at_call 75; with_reducible exact sub_of _ (Nat.le_refl _) (D1 _))) | quiet_step ((go_at_call 75; with_reducible exact sub_of _ (Nat.le_refl _) (D1 _))))
          refine wpQuiet_nil ?_
          rintro w2 ⟨uu, hu⟩
          have hb2 : Below wr.heap.size wr w2 := by rw [hu]; exact uu.ok
          clear hu uu D1 F0 F1 F2 F3 F4 F5
          have he : x.1 = y.1 := dc_iff.1 HV.out
          have HE := Lib.hid he
          clear he
          have W2' := hbr.trans (hb2.mono (by omega))
          have hown2 := own_keep hown1 hb2
          have HSQ2 := Lib.hid (fun z hz => own_keep (HSQ.out z hz) hb2)
          clear hown1 hbr hb2 HSQ
          go_wp2_with fail
          obtain ⟨N2, hN2⟩ : ∃ N2, n - (k + 1) = N2 := ⟨_, rfl⟩
          obtain ⟨C2, hC2⟩ : ∃ C2, c - (k + 1) = C2 := ⟨_, rfl⟩
          rw [hN2, hC2]
          have HN2 := Lib.hid hN2
          have hN2a : k + 1 + N2 = n := by omega
          have HN2a := Lib.hid hN2a
          have hN21 : 1 ≤ N2 := by omega
          have hN2m : N2 ≤ 1048576 := by omega
          have hCC : C2 ≤ 9223372036854775807 := by omega
          have hNC : N2 ≤ C2 := by omega
          have hDD : ddK (fun x : CV => x.1) T (k + 2) = T.take (k + 1) := by rw [ddK_old HX.out HY.out HE.out, HD.out]
          have HDD := Lib.hid hDD
          clear hN2 hC2 hDD hN2a
          go_loopw [5, 7] (fun kv jv wr => ∃ (i m : Nat) (U : List CV), i + 1 ≤ N2 ∧ jv = .int .i64 ((i : Int) + 1) ∧ kv = .int .i64 (m : Int) ∧ m = (ddK (fun x : CV => x.1) T (k + i + 2)).length ∧ U.length = n ∧ U.take m = ddK (fun x : CV => x.1) T (k + i + 2) ∧ (∀ t, k + 1 + i ≤ t → U[t]? = T[t]?) ∧ 1 ≤ m ∧ m ≤ k + 1 + i ∧ wr.ownsRow base 28 3 (.slice (some ⟨g, 0, none⟩) n c) n (cutsV W H U) ∧ (∀ x ∈ T, wr.ownsRow base 85 3 (.slice x.2.1 x.1.length x.2.2) x.1.length (flat x.1)) ∧ Below base w wr) (fun _ jv _ => n - (intOf jv).toNat)
          case atStart =>
            have hl := HN.out
            have hkl : (T.take (k + 1)).length = k + 1 := by rw [List.length_take]; omega
            exact ⟨0, k + 1, T, hN21, rfl, by push_cast; rfl, by rw [Nat.add_zero, HDD.out, hkl], hl, by rw [Nat.add_zero, HDD.out], fun t _ => rfl, by omega, by omega, hown2, HSQ2.out, W2'⟩
          case round =>
            obtain ⟨i, m, U, hi, rfl, rfl, hm, hU, hUt, hUr, hm1, hmk, hown1, hSQ1, hbr⟩ := hrel
            clear hown2 HSQ2 W2'
            have HSQ := Lib.hid hSQ1
            have HMM := Lib.hid hm
            have HU := Lib.hid hU
            have HUT := Lib.hid hUt
            have HUR := Lib.hid hUr
            clear hSQ1 hm hU hUt hUr
            have hg := (own_lt hown1).2
            have i0 : (0 : Int) ≤ (i : Int) := by omega
            have i1 : (i : Int) < (N2 : Int) := by omega
            have m0 : (0 : Int) ≤ (m : Int) := by omega
            have hmn : m < n := by have := HN2a.out; omega
            have m1 : (m : Int) < (n : Int) := by omega
            by_cases hlt : i + 1 < N2
            · have i2 : (i : Int) + 1 < (N2 : Int) := by omega
              have i3 : (0 : Int) ≤ (i : Int) + 1 := by omega
              have hxl : k + i + 2 < n := by have := HN2a.out; omega
              obtain ⟨x', hx⟩ : ∃ x', T[k + i + 2]? = some x' := ⟨_, List.getElem?_eq_getElem (by have := HN.out; omega)⟩
              obtain ⟨y', hy⟩ : ∃ y', T[k + i + 1]? = some y' := ⟨_, List.getElem?_eq_getElem (by have := HN.out; omega)⟩
              have hxU := (HUR.out (k + i + 2) (by omega)).trans hx
              have hyU := (HUR.out (k + i + 1) (by omega)).trans hy
              have hxT := List.mem_of_getElem? hx
              have hyT := List.mem_of_getElem? hy
              obtain ⟨c0, c1, c2⟩ : wr.cell? ⟨g, (k + 1) * 3 + (i + 1) * 3, none⟩ = some (.int .i64 W) ∧ wr.cell? ⟨g, (k + 1) * 3 + (i + 1) * 3 + 1, none⟩ = some (.int .i64 H) ∧ wr.cell? ⟨g, (k + 1) * 3 + (i + 1) * 3 + 2, none⟩ = some (.slice x'.2.1 x'.1.length x'.2.2) := by
                obtain ⟨h0, h1, h2⟩ := cutsV_get W H U (k + i + 2) x' hxU
                rw [show (k + i + 2) * 3 = (k + 1) * 3 + (i + 1) * 3 by omega] at h0 h1 h2
                exact ⟨(hown1.cellAt _ (by omega)).trans h0, (hown1.cellAt _ (by omega)).trans h1, (hown1.cellAt _ (by omega)).trans h2⟩
              obtain ⟨d0, d1, d2⟩ : wr.cell? ⟨g, (k + 1) * 3 + i * 3, none⟩ = some (.int .i64 W) ∧ wr.cell? ⟨g, (k + 1) * 3 + i * 3 + 1, none⟩ = some (.int .i64 H) ∧ wr.cell? ⟨g, (k + 1) * 3 + i * 3 + 2, none⟩ = some (.slice y'.2.1 y'.1.length y'.2.2) := by
                obtain ⟨h0, h1, h2⟩ := cutsV_get W H U (k + i + 1) y' hyU
                rw [show (k + i + 1) * 3 = (k + 1) * 3 + i * 3 by omega] at h0 h1 h2
                exact ⟨(hown1.cellAt _ (by omega)).trans h0, (hown1.cellAt _ (by omega)).trans h1, (hown1.cellAt _ (by omega)).trans h2⟩
              have hsx := HSQ.out x' hxT
              have hsy := HSQ.out y' hyT
              have hnx := HM.out x' hxT
              have hny := HM.out y' hyT
              obtain ⟨v2, hv2⟩ : ∃ v2, dc (x'.1 = y'.1) = v2 := ⟨_, rfl⟩
              have D1 : ∀ u : Later wr.heap.size wr, Calls Try.prog 75 #[.agg #[.int .i64 W, .int .i64 H, .slice x'.2.1 x'.1.length x'.2.2], .agg #[.int .i64 W, .int .i64 H, .slice y'.2.1 y'.1.length y'.2.2]] u.val fun e w' => e = .returned (.bool v2) ∧ Below u.val.heap.size u.val w' := fun u => by
                have := same_any W H W H x'.2.1 y'.2.1 _ _ x'.2.2 y'.2.2 x'.1 y'.1 u.val rfl rfl hnx hny (((sqs_of_own hsx).below u.ok).mono u.ok.size) (((sqs_of_own hsy).below u.ok).mono u.ok.size)
                rw [hv2] at this
                exact this
              have F0 : ∀ u : Later wr.heap.size wr, u.val.cell? ⟨g, (k + 1) * 3 + (i + 1) * 3, none⟩ = some (.int .i64 W) := fun u => (u.ok.cell (p := ⟨g, _, none⟩) hg).trans c0
              have F1 : ∀ u : Later wr.heap.size wr, u.val.cell? ⟨g, (k + 1) * 3 + (i + 1) * 3 + 1, none⟩ = some (.int .i64 H) := fun u => (u.ok.cell (p := ⟨g, _, none⟩) hg).trans c1
              have F2 : ∀ u : Later wr.heap.size wr, u.val.cell? ⟨g, (k + 1) * 3 + (i + 1) * 3 + 2, none⟩ = some (.slice x'.2.1 x'.1.length x'.2.2) := fun u => (u.ok.cell (p := ⟨g, _, none⟩) hg).trans c2
              have F3 : ∀ u : Later wr.heap.size wr, u.val.cell? ⟨g, (k + 1) * 3 + i * 3, none⟩ = some (.int .i64 W) := fun u => (u.ok.cell (p := ⟨g, _, none⟩) hg).trans d0
              have F4 : ∀ u : Later wr.heap.size wr, u.val.cell? ⟨g, (k + 1) * 3 + i * 3 + 1, none⟩ = some (.int .i64 H) := fun u => (u.ok.cell (p := ⟨g, _, none⟩) hg).trans d1
              have F5 : ∀ u : Later wr.heap.size wr, u.val.cell? ⟨g, (k + 1) * 3 + i * 3 + 2, none⟩ = some (.slice y'.2.1 y'.1.length y'.2.2) := fun u => (u.ok.cell (p := ⟨g, _, none⟩) hg).trans d2
              have HX2 := Lib.hid hx
              have HY2 := Lib.hid hy
              clear hx hy hxU hyU d0 d1 d2 hsx hsy hnx hny
              have HV2 := Lib.hid hv2
              clear hv2
              cases v2 with
              | true =>
                have HV2 := Lib.hid HV2.out
                clear c0 c1 c2
                go_wp2_with fail
                refine wp_region_sub wr.heap.size (by kernel_rfl) (by kernel_rfl) ?_
                iterate 12 (first | go_big_quiet_step ((go_at_call 75; with_reducible exact sub_of _ (Nat.le_refl _) (D1 _))) | quiet_step ((go_at_call 75; with_reducible exact sub_of _ (Nat.le_refl _) (D1 _))))
                refine wpQuiet_nil ?_
                rintro w2 ⟨uu, hu⟩
                have hb2 : Below wr.heap.size wr w2 := by rw [hu]; exact uu.ok
                clear hu uu D1 F0 F1 F2 F3 F4 F5
                have he : x'.1 = y'.1 := dc_iff.1 HV2.out
                have HE2 := Lib.hid he
                clear he
                go_wp2_with fail
                go_roundw
                case rel => exact ⟨i + 1, m, U, by omega, by go_num, rfl, by rw [HMM.out, show k + (i + 1) + 2 = k + i + 1 + 2 by omega, ddK_old HX2.out HY2.out HE2.out], HU.out, by rw [HUT.out, show k + (i + 1) + 2 = k + i + 1 + 2 by omega, ddK_old HX2.out HY2.out HE2.out], fun t ht => HUR.out t (by omega), hm1, by omega, own_keep hown1 hb2, fun z hz => own_keep (HSQ.out z hz) hb2, hbr.trans (hb2.mono (by omega))⟩
                case measure => simp [intOf]; omega
              | false =>
                have HV2 := Lib.hid HV2.out
                go_wp2_with fail
                refine wp_region_sub wr.heap.size (by kernel_rfl) (by kernel_rfl) ?_
                iterate 12 (first | go_big_quiet_step ((go_at_call 75; with_reducible exact sub_of _ (Nat.le_refl _) (D1 _))) | quiet_step ((go_at_call 75; with_reducible exact sub_of _ (Nat.le_refl _) (D1 _))))
                refine wpQuiet_nil ?_
                rintro w2 ⟨uu, hu⟩
                have hb2 : Below wr.heap.size wr w2 := by rw [hu]; exact uu.ok
                clear hu uu D1 F0 F1 F2 F3 F4 F5
                have hne : x'.1 ≠ y'.1 := fun e => by have := HV2.out; rw [dc_true e] at this; cases this
                have HNE := Lib.hid hne
                have hown2 := own_keep hown1 hb2
                have HSQ2 := Lib.hid (fun z hz => own_keep (HSQ.out z hz) hb2)
                have hbr2 := hbr.trans (hb2.mono (by omega))
                have c0' := (hb2.cell (p := ⟨g, (k + 1) * 3 + (i + 1) * 3, none⟩) hg).trans c0
                have c1' := (hb2.cell (p := ⟨g, (k + 1) * 3 + (i + 1) * 3 + 1, none⟩) hg).trans c1
                have c2' := (hb2.cell (p := ⟨g, (k + 1) * 3 + (i + 1) * 3 + 2, none⟩) hg).trans c2
                have hxs := hown2.1
                obtain ⟨v0, e0⟩ := own_some hown2 (j := m * 3) (by omega)
                obtain ⟨v1, e1⟩ := own_some hown2 (j := m * 3 + 1) (by omega)
                obtain ⟨v2, e2⟩ := own_some hown2 (j := m * 3 + 2) (by omega)
                have f0 := hown2.frozenAt (m * 3)
                have f1 := hown2.frozenAt (m * 3 + 1)
                have f2 := hown2.frozenAt (m * 3 + 2)
                have hg2 := (own_lt hown2).2
                clear hne c0 c1 c2 hown1 hbr HSQ hb2
                go_wp2_with fail
                obtain ⟨S1, G1⟩ := hown2.stored (m * 3) (.int .i64 W)
                obtain ⟨S2, G2⟩ := S1.stored (m * 3 + 1) (.int .i64 H)
                obtain ⟨S3, G3⟩ := S2.stored (m * 3 + 2) (.slice x'.2.1 x'.1.length x'.2.2)
                have GG := grown_trans (grown_trans G1 G2) G3
                have hml : m < U.length := by rw [HU.out]; exact hmn
                rw [cutsV_set W H U m x' hml] at S3
                have HS := Lib.hid (fun z (hz : z ∈ T) => own_blk (HSQ2.out z hz) fun b hb => GG.block b ((HSQ2.out z hz).lt b hb).2 (fun e => rows_ne (HSQ2.out z hz) hown2 (by decide) b hb e.symm))
                have hB := ((hbr2.setCell (p := ⟨g, m * 3, none⟩) hgb (.int .i64 W)).setCell (p := ⟨g, m * 3 + 1, none⟩) hgb (.int .i64 H)).setCell (p := ⟨g, m * 3 + 2, none⟩) hgb (.slice x'.2.1 x'.1.length x'.2.2)
                go_roundw
                case rel => exact ⟨i + 1, m + 1, U.set m x', by omega, by go_num, by go_num, by rw [show k + (i + 1) + 2 = k + i + 1 + 2 by omega, ddK_new HX2.out HY2.out HNE.out, List.length_append, ← HMM.out]; rfl, by rw [List.length_set]; exact HU.out, by rw [show k + (i + 1) + 2 = k + i + 1 + 2 by omega, ddK_new HX2.out HY2.out HNE.out, take_set_snoc _ _ _ hml, HUT.out], fun t ht => by rw [List.getElem?_set_ne (by omega)]; exact HUR.out t (by omega), by omega, by omega, S3, HS.out, hB⟩
                case measure => simp [intOf]; omega
            · have hin : i + 1 = N2 := by omega
              have hRR : U.take m = R := by rw [HUT.out, ← HR.out]; congr 1; have := HN2a.out; omega
              have hRl : R.length = m := by rw [← hRR, List.length_take, HU.out]; omega
              have HRR := Lib.hid hRR
              have HRL := Lib.hid hRl
              have i4 : ¬ (i : Int) + 1 < (N2 : Int) := by omega
              have hxs := hown1.1
              obtain ⟨z, hz⟩ : ∃ z : Value, z = .agg #[.int .i64 0, .int .i64 0, .slice none 0 0] := ⟨_, rfl⟩
              have hcl : ∀ ty, (Builtin.clear_ #[38] ty #[.slice (some ⟨g, m * 3, none⟩) (n - m) (c - m)]).run Try.prog wr = .ok (.tuple #[]) (wr.setCells g (m * 3) (Builtin.zeroCells z.cells (n - m)).toList) := fun ty =>
                run_clear_k wr 38 28 ty z 3 Try.underlying38 (by rw [hz]; exact zeroCut) (by rw [hz]; rfl) (by rw [hz]; decide) g (m * 3) (n - m) (c - m) (by omega) (by omega) (fun j hj => by obtain ⟨v, e⟩ := own_some hown1 (j := m * 3 + j) (by omega); rw [e]; rfl) (fun j hj => hown1.frozenAt _)
              obtain ⟨xs', O1, T1, G1⟩ := own_setCells (Builtin.zeroCells z.cells (n - m)).toList (m * 3) wr _ hown1
              obtain ⟨vs, hvs⟩ : ∃ vs, (Builtin.zeroCells z.cells (n - m)).toList = vs := ⟨_, rfl⟩
              rw [hvs] at hcl O1 G1
              obtain ⟨W3, hW3⟩ : ∃ W3, wr.setCells g (m * 3) vs = W3 := ⟨_, rfl⟩
              rw [hW3] at hcl O1 G1
              have HS := Lib.hid (fun z (hz : z ∈ T) => own_blk (HSQ.out z hz) fun b hb => G1.block b ((HSQ.out z hz).lt b hb).2 (fun e => rows_ne (HSQ.out z hz) hown1 (by decide) b hb e.symm))
              have hB := hbr.grown G1 (by omega) (fun j hj => by cases hj; omega)
              have O2 := own_take O1 (m := m) (by omega)
              rw [T1, cutsV_take W H U m (by rw [HU.out]; omega), HRR.out] at O2
              clear hvs hW3 hz O1 T1 G1 hbr hRR hRl hxs hown1 HSQ
              have HO2 := Lib.hid O2
              have HB := Lib.hid hB
              clear O2 hB
              go_wp2_with fail
              go_ret
              have hsub : ∀ x ∈ R, x ∈ T := fun x hx => by
                have h1 : x ∈ ddK (fun x : CV => x.1) T n := by rw [HR.out]; exact hx
                exact List.mem_of_mem_take ((ddK_sub _ T n).subset h1)
              exact ⟨by rw [HRL.out]; rfl, ⟨by rw [HRL.out]; exact HO2.out, fun x hx => HS.out x (hsub x hx)⟩, HB.out⟩
      · obtain rfl : k + 1 = n := by omega
        have hR2 : R = T := by rw [← HR.out, HD.out]; exact List.take_of_length_le (by rw [HN.out]; exact Nat.le_refl _)
        have HRT := Lib.hid hR2
        clear hR2
        go_wp2_with fail
        go_ret
        have hRl : R.length = k + 1 := by rw [HRT.out]; exact HN.out
        have e : R = T := HRT.out
        subst e
        exact ⟨by rw [hRl]; rfl, ⟨by rw [hRl]; exact hown1, HSQ.out⟩, hbr⟩
end Go.Proofs.Ytdpbjmdgjhleeaa
namespace Go.Proofs.Ytdpbjmdgjhleeaa
open Go.RowKit

/-- The squares of the first turn. -/
noncomputable def fL (W H : Int) (L : List Sq) : List Sq := (F.firstC ⟨W, H, L⟩).l
theorem first_yes {W H : Int} {L : List Sq} (hG : Good W H L) : firstW W H L = max W H ∧ firstH W H L = min W H ∧ firstR W H L = fL W H L := by
  have hd := F.SM_dims (F.first_in (c := ⟨W, H, L⟩) hG)
  refine ⟨?_, ?_, ?_⟩
  · unfold firstW; rw [cutX_yes hG]; exact hd.1
  · unfold firstH; rw [cutX_yes hG]; exact hd.2
  · unfold firstR; rw [ifGood_yes hG]; rfl
theorem fL_len {W H : Int} {L : List Sq} (hG : Good W H L) : (fL W H L).length ≤ 1048576 := by
  have := first_room W H L
  rwa [(first_yes hG).2.2] at this
theorem firstG_any (W H : Int) (A : Option Addr) (n c : Nat) (L : List Sq) (w : World) (hl : L.length = n) (hc : n ≤ c) (hL : SqsAt w w.heap.size A L) (hG : Good W H L) :
    Calls Try.prog 21 #[.agg #[.int .i64 W, .int .i64 H, .slice A n c]] w fun e w' => ∃ A3 c3, e = .returned (.tuple #[.agg #[.int .i64 (max W H), .int .i64 (min W H), .slice A3 (fL W H L).length c3], .bool true]) ∧ w'.ownsRow w.heap.size 85 3 (.slice A3 (fL W H L).length c3) (fL W H L).length (flat (fL W H L)) ∧ Below w.heap.size w w' := by
  have h := implFirstT_any W H A n c L w hl hc hL (wf_good hG)
  obtain ⟨e1, e2, e3⟩ := first_yes hG
  unfold RetCut at h
  rw [e1, e2, e3, dc_true hG] at h
  exact h
/-- The turns under way. -/
structure TL (B : Nat) (X Y : Int) (w : World) (Ds : List CV) (v : Value) (V : World) : Prop where
  row : V.ownsRow B 28 3 v Ds.length (cutsV X Y Ds)
  sq : ∀ x ∈ Ds, V.ownsRow B 85 3 (.slice x.2.1 x.1.length x.2.2) x.1.length (flat x.1)
  apart : Ds.Pairwise fun x y => ∀ b, blk x = some b → blk y ≠ some b
  bel : Below B w V
theorem TL.push {B : Nat} {X Y : Int} {w V V2 w4 : World} {Ds : List CV} {A1 : Option Addr} {c1 : Nat} {v' : Value} {x : CV} {o2 o3 : Obj} (h : TL B X Y w Ds (.slice A1 Ds.length c1) V) (hB : B ≤ V.heap.size) (hb : Below V.heap.size V V2)
    (hx : V2.ownsRow V.heap.size 85 3 (.slice x.2.1 x.1.length x.2.2) x.1.length (flat x.1)) (hg : ((V2.alloc o2).alloc o3).grownBy w4 (Value.slice A1 Ds.length c1).ownBlock)
    (hr : w4.ownsRow B 28 3 v' (Ds.length + 1) (cutsV X Y Ds ++ cutV X Y x)) : TL B X Y w (Ds ++ [x]) v' w4 := by
  have row2 := (own_keep h.row hb)
  have rowa := (row2.alloc o2).alloc o3
  have key : ∀ {base : Nat} (y : CV), V2.ownsRow base 85 3 (.slice y.2.1 y.1.length y.2.2) y.1.length (flat y.1) → w4.ownsRow base 85 3 (.slice y.2.1 y.1.length y.2.2) y.1.length (flat y.1) := fun y hy => by
    have hy2 := (hy.alloc o2).alloc o3
    exact own_blk hy2 fun b hb' => hg.block b (hy2.lt b hb').2 (fun e => rows_ne hy2 rowa (by decide) b hb' e.symm)
  refine ⟨?_, fun y hy => ?_, ?_, ?_⟩
  · rw [List.length_append, cutsV_app]
    simpa [cutsV] using hr
  · rcases List.mem_append.1 hy with hy | hy
    · exact key y (own_keep (h.sq y hy) hb)
    · simp only [List.mem_singleton] at hy
      subst hy
      exact own_base (key _ hx) hB
  · refine List.pairwise_append.2 ⟨h.apart, List.pairwise_singleton _ _, fun a ha y hy b h1 h2 => ?_⟩
    simp only [List.mem_singleton] at hy
    subst hy
    have k1 := ((h.sq a ha).lt b h1).2
    have k2 := (hx.lt b h2).1
    omega
  · have hs := hb.size
    exact ((((h.bel.trans (hb.mono hB)).alloc (by omega) o2).alloc (by simp; omega) o3).grown hg (by simp; omega) (fun j hj => (h.row.lt j hj).1))
theorem TL.keepN {B : Nat} {X Y : Int} {w : World} : TL B X Y w [] (.slice none 0 0) w := ⟨World.ownsRow_nil _ _ _ _, fun x hx => (by cases hx), List.Pairwise.nil, Below.refl _ _⟩
set_option maxRecDepth 100000 in
set_option maxHeartbeats 8000000 in
theorem turns_any (W H : Int) (A : Option Addr) (c base0 : Nat) (Cs : List CV) (M : List (List Sq)) (w : World) (hn : Cs.length ≤ 65536) (h : CL base0 W H Cs (.slice A Cs.length c) w) (hG : ∀ x ∈ Cs, Good W H x.1) (hM : M.Pairwise F.ltQ) (hm : ∀ z, z ∈ Cs.map (fun x => fL W H x.1) ↔ z ∈ M) :
    Calls Try.prog 72 #[.slice A Cs.length c] w fun e w' => ∃ A' c' Ds, e = .returned (.slice A' Ds.length c') ∧ Ds.map (·.1) = M ∧ CL w.heap.size (max W H) (min W H) Ds (.slice A' Ds.length c') w' ∧ (Ds.Pairwise fun x y => ∀ b, blk x = some b → blk y ≠ some b) ∧ Below w.heap.size w w' := by
  obtain ⟨i0, hi, hz0, hz1, hz2⟩ := info_parts infoCut
  obtain ⟨X, hX⟩ : ∃ X, max W H = X := ⟨_, rfl⟩
  obtain ⟨Y, hY⟩ : ∃ Y, min W H = Y := ⟨_, rfl⟩
  obtain ⟨B, hBB⟩ : ∃ B, w.heap.size = B := ⟨_, rfl⟩
  have HCL := Lib.hid h
  have HG := Lib.hid hG
  have HM := Lib.hid hM
  have Hm := Lib.hid hm
  have hFG := fun (x : CV) (hx : x ∈ Cs) (V : World) (hcx : x.1.length ≤ x.2.2) (hs : SqsAt V V.heap.size x.2.1 x.1) => firstG_any W H x.2.1 x.1.length x.2.2 x.1 V rfl hcx hs (HG.out x hx)
  simp only [hX, hY] at hFG
  have HFG := Lib.hid hFG
  rw [hX, hY, hBB]
  have hB0 : B ≤ w.heap.size := by omega
  clear h hG hM hm hFG hX hY
  go_enter Try.func72, Try.ntmps72
  go_wp2_with fail
  go_loopw [3, 10] (fun tv iv wr => ∃ (k : Nat) (Ds : List CV) (A1 : Option Addr) (c1 : Nat), k ≤ Cs.length ∧ iv = .int .i64 (k : Int) ∧ tv = .slice A1 Ds.length c1 ∧ Ds.length = k ∧ Ds.map (·.1) = (Cs.take k).map (fun x => fL W H x.1) ∧ TL B X Y w Ds (.slice A1 Ds.length c1) wr ∧ Below w.heap.size w wr) (fun _ iv _ => Cs.length - (intOf iv).toNat)
  case atStart => exact ⟨0, [], none, 0, Nat.zero_le _, rfl, rfl, rfl, rfl, TL.keepN, Below.refl _ _⟩
  case round =>
    obtain ⟨k, Ds, A1, c1, hk, rfl, rfl, hDk, hDm, hTL, hbr⟩ := hrel
    have hDl : Ds.length ≤ 65536 := by omega
    have HTL := Lib.hid hTL
    have HDM := Lib.hid hDm
    have HDK := Lib.hid hDk
    have hzr := hbr.size
    clear hTL hDm
    by_cases hlt : k < Cs.length
    · obtain ⟨x, hx⟩ : ∃ x, Cs[k]? = some x := ⟨_, List.getElem?_eq_getElem hlt⟩
      have hxm : x ∈ Cs := List.mem_of_getElem? hx
      obtain ⟨g9, rfl⟩ := own_form HCL.out.own (show 0 < Cs.length by omega)
      have hg9 := (own_lt HCL.out.own).2
      obtain ⟨d0, d1, d2⟩ := HCL.out.at hx
      have c0 := (hbr.cell (p := ⟨g9, k * 3, none⟩) hg9).trans d0
      have c1' := (hbr.cell (p := ⟨g9, k * 3 + 1, none⟩) hg9).trans d1
      have c2 := (hbr.cell (p := ⟨g9, k * 3 + 2, none⟩) hg9).trans d2
      have hxs := HCL.out.sq x hxm
      have hxc := own_cap hxs
      have hxq : SqsAt wr wr.heap.size x.2.1 x.1 := ((sqs_of_own hxs).below hbr).mono hbr.size
      have HX := Lib.hid hx
      have k0 : (0 : Int) ≤ (k : Int) := by omega
      have k1 : (k : Int) < (Cs.length : Int) := by omega
      obtain ⟨W1, hW1⟩ : ∃ W1, W1 = wr.alloc (.cells #[.int .i64 W, .int .i64 H, .slice x.2.1 x.1.length x.2.2] 28) := ⟨_, rfl⟩
      have hb1 : Below wr.heap.size wr W1 := by rw [hW1]; exact (Below.refl _ _).alloc (Nat.le_refl _) _
      have f0 : W1.cell? ⟨wr.heap.size, 0, none⟩ = some (.int .i64 W) := by rw [hW1]; simp
      have f1 : W1.cell? ⟨wr.heap.size, 1, none⟩ = some (.int .i64 H) := by rw [hW1]; simp
      have f2 : W1.cell? ⟨wr.heap.size, 2, none⟩ = some (.slice x.2.1 x.1.length x.2.2) := by rw [hW1]; simp
      have hz1' : wr.heap.size < W1.heap.size := by rw [hW1]; simp
      have hxq1 : SqsAt W1 W1.heap.size x.2.1 x.1 := (hxq.below hb1).mono hb1.size
      have hB1 : Below w.heap.size w W1 := hbr.trans (hb1.mono hbr.size)
      have HT1 := Lib.hid (show TL B X Y w Ds (.slice A1 Ds.length c1) W1 from ⟨own_keep HTL.out.row hb1, fun y hy => own_keep (HTL.out.sq y hy) hb1, HTL.out.apart, HTL.out.bel.trans (hb1.mono (by omega))⟩)
      clear d0 d1 d2 hx hxs hxq hDk
      go_wp2_with fail
      rw [← hW1]
      clear hW1
      (with_reducible refine (HFG.out x hxm W1 hxc hxq1).mono ?_)
      rintro e w2 ⟨A3, c3, rfl, ho3, hb2⟩
      obtain ⟨F3, hF3⟩ : ∃ F3, fL W H x.1 = F3 := ⟨_, rfl⟩
      rw [hF3] at ho3 ⊢
      have HF3 := Lib.hid hF3
      have hs2 := hb2.size
      have hown1 := own_keep HT1.out.row hb2
      have hbl : Ds.length + 1 ≤ maxLen := by unfold maxLen; omega
      have hby : (Ds.length + 1) * 40 ≤ 140737488355328 := by omega
      have hB2 := hB1.trans (hb2.mono hB1.size)
      have HO3 := Lib.hid ho3
      have HB2 := Lib.hid hb2
      clear hF3 ho3 f0 f1 f2 c0 c1' c2 hxq1 hbr
      go_wp2_with (at_builtin; refine app_list rfl _ _ _ rfl B 28 i0 (.agg #[.int .i64 0, .int .i64 0, .slice none 0 0]) 3 40 Try.underlying38 hi hz0 hz1 hz2 rfl (by decide) (.slice A1 Ds.length c1) Ds.length _ rfl ((hown1.alloc _).alloc _) (some ⟨w2.heap.size + 1, 0, none⟩) 1 1 [.int .i64 X, .int .i64 Y, .slice A3 F3.length c3] rfl rfl (.inr ⟨_, rfl, new3' _ _ _ _ _ _⟩) (oneCut _ _ _ _ _) hbl hby (by simp; omega) ?_; intro v' w4 hown4 hgr4 hv4)
      obtain ⟨A4, c4, rfl⟩ := own_val hown4
      have hT4 := HT1.out.push (x := (F3, A3, c3)) (by omega) HB2.out HO3.out hgr4 hown4
      have hBz := ((hB2.alloc (by omega) (.cells #[.int .i64 X, .int .i64 Y, .slice A3 F3.length c3] 28)).alloc (by simp; omega) (.cells #[.int .i64 X, .int .i64 Y, .slice A3 F3.length c3] 28)).grown hgr4 (by simp; omega) (fun j hj => by have := (HT1.out.row.lt j hj).1; omega)
      clear hown4 hgr4 hown1
      go_roundw
      case rel => exact ⟨k + 1, Ds ++ [(F3, A3, c3)], A4, c4, by omega, by go_num, by rw [List.length_append]; rfl, by rw [List.length_append, HDK.out]; rfl, by rw [List.map_append, HDM.out, List.take_add_one, HX.out, List.map_append]; simp [HF3.out], by rw [List.length_append]; exact hT4, hBz⟩
      case measure => simp [intOf]; omega
    · obtain rfl : k = Cs.length := by omega
      have hm30 : ∀ x ∈ Ds, x.1.length ≤ 1048576 := fun x hx => by
        have h1 : x.1 ∈ Ds.map (·.1) := List.mem_map_of_mem hx
        rw [HDM.out] at h1
        obtain ⟨y, hy, e⟩ := List.mem_map.1 h1
        rw [← e]
        exact fL_len (HG.out y (List.mem_of_mem_take hy))
      have HM30 := Lib.hid hm30
      clear hm30 hDk
      go_wp2_with fail
      (with_reducible refine (sortC_any X Y A1 Ds.length c1 B Ds wr rfl (by omega) HM30.out ⟨HTL.out.row, HTL.out.sq⟩).mono ?_)
      rintro e w3 ⟨rfl, T, hTp, hTs, hCL3, hgr3⟩
      have hTl : T.length = Ds.length := hTp.length_eq
      have HTP := Lib.hid hTp
      have HTS := Lib.hid hTs
      have HC3 := Lib.hid hCL3
      have HTLn := Lib.hid hTl
      have hB3 := hbr.grown hgr3 hbr.size (fun j hj => by have := (HTL.out.row.lt j hj).1; omega)
      clear hTp hTs hCL3 hgr3 hTl
      go_wp2_with fail
      (with_reducible refine (compactC_any X Y A1 Ds.length c1 B T w3 HTLn.out (by omega) (fun x hx => HM30.out x (HTP.out.mem_iff.1 hx)) HC3.out).mono ?_)
      rintro e w5 ⟨rfl, hCL5, hb5⟩
      have HC5 := Lib.hid hCL5
      have HB5 : Hid (Below B w w5) := Lib.hid ((show Below B w w3 by rw [← hBB]; exact hB3).trans hb5)
      clear hCL5 hb5
      go_wp2_with fail
      go_ret
      have hmm : ∀ z, z ∈ Ds.map (·.1) ↔ z ∈ M := fun z => by rw [HDM.out, List.take_length]; exact Hm.out z
      have hdd := dd_is (f := fun x : CV => x.1) HTP.out HTS.out HM.out hmm
      rw [HTLn.out] at hdd
      refine ⟨A1, c1, ddK (fun x : CV => x.1) T Ds.length, rfl, hdd, HC5.out, ?_, HB5.out⟩
      have hap : T.Pairwise fun x y => ∀ b, blk x = some b → blk y ≠ some b := (HTP.out.pairwise_iff (fun {a b} hab k hk e => hab k e hk)).2 HTL.out.apart
      exact (hap.sublist (List.take_sublist _ _)).sublist (ddK_sub _ T Ds.length)
end Go.Proofs.Ytdpbjmdgjhleeaa
namespace Go.Proofs.Ytdpbjmdgjhleeaa
open Go.RowKit

theorem newT (w : World) (a b c : Value) (t : TypeId) : ∀ j u, [a, b, c][j]? = some u → (w.alloc (.cells #[a, b, c] t)).cell? ((⟨w.heap.size, 0, none⟩ : Addr).add j) = some u := new3 w a b c t
theorem sm_goodT {W H : Int} {L : List Sq} (hG : Good W H L) : ∀ s ∈ L, SmS s := fun s hs => by
  have h1 := (good_fill hG).within s hs
  have h2 := hG.1
  have h3 := hG.2.1
  unfold Within at h1
  unfold SmS
  omega
theorem bas_toT (l : List UInt8) : (bas l).toList = l := by rw [ByteArray.toList_eq]; rfl
theorem tx_eqT (a b : Nat) {L M : List Sq} (hL : ∀ s ∈ L, SmS s) (hM : ∀ s ∈ M, SmS s) : ((bas (txC (a : Int).toNat (b : Int).toNat M)).toList == (bas (txC (a : Int).toNat (b : Int).toNat L)).toList) = dc (M = L) := by
  rw [bas_toT, bas_toT]
  by_cases h : M = L
  · rw [dc_true h, h]; exact beq_self_eq_true _
  · rw [dc_false h]
    refine beq_eq_false_iff_ne.2 fun e => h ?_
    exact (txC_inj hM hL e).2.2
theorem fL_good {a b : Nat} (hab : b ≤ a) {L : List Sq} (hG : Good a b L) : Good a b (fL a b L) := by
  have hin := F.first_in (c := ⟨(a : Int), (b : Int), L⟩) hG
  have hd := F.SM_dims hin
  have hb := F.SM_good (c := ⟨(a : Int), (b : Int), L⟩) hG hin
  unfold fL
  obtain ⟨f, hf⟩ : ∃ f, F.firstC ⟨(a : Int), (b : Int), L⟩ = f := ⟨_, rfl⟩
  rw [hf] at hd hb ⊢
  unfold F.GoodC at hb
  have e1 : f.w = (a : Int) := by have := hd.1; simp only at this; omega
  have e2 : f.h = (b : Int) := by have := hd.2; simp only at this; omega
  rw [e1, e2] at hb
  exact hb
theorem ftL_wide {a b : Nat} (hab : b ≤ a) : ftL a b = (allF a b).filter fun L => dc (fL a b L = L) := by
  unfold ftL fL
  rw [show max a b = a by omega, show min a b = b by omega]
theorem ftL_swap (a b : Nat) : ftL a b = ftL b a := by
  unfold ftL
  rw [show max a b = max b a by omega, show min a b = min b a by omega]
theorem turnM_any (a b : Nat) (hab : b ≤ a) (A : Option Addr) (n c : Nat) (L : List Sq) (w : World) (hl : L.length = n) (hc : n ≤ c) (hL : SqsAt w w.heap.size A L) (hG : Good a b L) :
    Calls Try.prog 55 #[.agg #[.int .i64 a, .int .i64 b, .slice A n c]] w fun e w' => ∃ A' c', e = .returned (.agg #[.int .i64 a, .int .i64 b, .slice A' (fL a b L).length c']) ∧ SqsAt w' w'.heap.size A' (fL a b L) ∧ Below w.heap.size w w' :=
  (cuTurns_any a b A n c L w hl hc hL hG).mono (by
    rintro e w' ⟨A', k, f, rfl, hf, ho, hb⟩
    obtain rfl := F.first_of (c := ⟨(a : Int), (b : Int), L⟩) hG hf
    have hin := F.first_in (c := ⟨(a : Int), (b : Int), L⟩) hG
    have hd := F.SM_dims hin
    have e1 : (F.firstC ⟨(a : Int), (b : Int), L⟩).w = (a : Int) := by have := hd.1; simp only at this; omega
    have e2 : (F.firstC ⟨(a : Int), (b : Int), L⟩).h = (b : Int) := by have := hd.2; simp only at this; omega
    exact ⟨A', k, by rw [e1, e2]; rfl, sqs_of_own ho, hb⟩)
theorem filter_succ {α : Type} (p : α → Bool) (R : List α) (k : Nat) (x : α) (h : R[k]? = some x) : (R.take (k + 1)).filter p = (R.take k).filter p ++ (if p x then [x] else []) := by
  rw [List.take_add_one, h, List.filter_append]
  congr 1
  cases e : p x <;> simp [e]
/-- A list of cuts: what ctTurns returns. -/
def RetT (w : World) (W H : Int) (M : List (List Sq)) (e : Ending) (w' : World) : Prop :=
  ∃ A c Ds, e = .returned (.slice A Ds.length c) ∧ Ds.map (·.1) = M ∧ CL w.heap.size W H Ds (.slice A Ds.length c) w' ∧ Below w.heap.size w w'
set_option maxRecDepth 100000 in
set_option maxHeartbeats 8000000 in
theorem ctT_wide (a b : Nat) (hab : b ≤ a) (hok : okL a b = true) (w : World) :
    Calls Try.prog 71 #[.int .i64 a, .int .i64 b] w (RetT w a b (ftL a b)) := by
  have hh := okL_nat.1 hok
  have hgood := allF_good hok
  have hfew := allF_few hok
  obtain ⟨i0, hi, hy0, hy1, hy2⟩ := info_parts infoCut
  have C := ctAll_any a b (by omega) (by omega) (by omega) w
  rw [show fills 6 b (a * b) (List.replicate a 0) = allF a b from rfl] at C
  rw [ftL_wide hab]
  obtain ⟨R, hR⟩ : ∃ R, allF a b = R := ⟨_, rfl⟩
  rw [hR] at C hgood hfew ⊢
  obtain ⟨p, hp⟩ : ∃ p : List Sq → Bool, p = fun L => dc (fL a b L = L) := ⟨_, rfl⟩
  rw [← hp]
  have HPP := Lib.hid hp
  have HG := Lib.hid hgood
  have HF := Lib.hid hfew
  have i1 : ¬ (a : Int) < (b : Int) := by omega
  clear hok hR hgood hfew hp
  go_enter Try.func71, Try.ntmps71
  go_wp2_with fail
  refine C.mono ?_
  rintro e w2 ⟨A9, c9, Cs, rfl, hm, hCL, hb2⟩
  have hCl : Cs.length = R.length := by rw [← hm, List.length_map]
  have hCs : Cs.length ≤ 65536 := by have := HF.out; omega
  have HCC := Lib.hid hCl
  have HM := Lib.hid hm
  have HCL := Lib.hid hCL
  have HB2 := Lib.hid hb2
  have hs20 := hb2.size
  clear C hm hCL hb2 hCl
  go_wp2_with fail
  go_loopw [5, 18] (fun tv iv wr => ∃ (k : Nat) (Ds : List CV) (A1 : Option Addr) (c1 : Nat), k ≤ Cs.length ∧ iv = .int .i64 (k : Int) ∧ tv = .slice A1 Ds.length c1 ∧ Ds.length ≤ k ∧ Ds.map (·.1) = (R.take k).filter p ∧ (∀ y ∈ Ds, y ∈ Cs) ∧ wr.ownsRow w2.heap.size 28 3 (.slice A1 Ds.length c1) Ds.length (cutsV a b Ds) ∧ Below w2.heap.size w2 wr) (fun _ iv _ => Cs.length - (intOf iv).toNat)
  case atStart => exact ⟨0, [], none, 0, Nat.zero_le _, rfl, rfl, Nat.le_refl _, rfl, fun y hy => (by cases hy), World.ownsRow_nil _ _ _ _, Below.refl _ _⟩
  case round =>
    obtain ⟨k, Ds, A1, c1, hk, rfl, rfl, hDk, hDm, hDs, hrow, hbr⟩ := hrel
    have HROW := Lib.hid hrow
    have HDM := Lib.hid hDm
    have HDS := Lib.hid hDs
    have hDl : Ds.length ≤ 65536 := by omega
    have hzr := hbr.size
    clear hrow hDm hDs
    by_cases hlt : k < Cs.length
    · obtain ⟨x, hx⟩ : ∃ x, Cs[k]? = some x := ⟨_, List.getElem?_eq_getElem hlt⟩
      have hxm : x ∈ Cs := List.mem_of_getElem? hx
      obtain ⟨g9, rfl⟩ := own_form HCL.out.own (show 0 < Cs.length by omega)
      have hg9 := (own_lt HCL.out.own).2
      obtain ⟨d0, d1, d2⟩ := HCL.out.at hx
      have c0 := (hbr.cell (p := ⟨g9, k * 3, none⟩) hg9).trans d0
      have c1' := (hbr.cell (p := ⟨g9, k * 3 + 1, none⟩) hg9).trans d1
      have c2 := (hbr.cell (p := ⟨g9, k * 3 + 2, none⟩) hg9).trans d2
      have hxs := HCL.out.sq x hxm
      have hxc := own_cap hxs
      have hxq : SqsAt wr wr.heap.size x.2.1 x.1 := ((sqs_of_own hxs).below hbr).mono hbr.size
      have hRk : R[k]? = some x.1 := by rw [← HM.out, List.getElem?_map, hx]; rfl
      have hG := HG.out x.1 (List.mem_of_getElem? hRk)
      have HR := Lib.hid hRk
      have k0 : (0 : Int) ≤ (k : Int) := by omega
      have k1 : (k : Int) < (Cs.length : Int) := by omega
      obtain ⟨W1, hW1⟩ : ∃ W1, W1 = wr.alloc (.cells #[.int .i64 a, .int .i64 b, .slice x.2.1 x.1.length x.2.2] 28) := ⟨_, rfl⟩
      have hb1 : Below wr.heap.size wr W1 := by rw [hW1]; exact (Below.refl _ _).alloc (Nat.le_refl _) _
      have f0 : W1.cell? ⟨wr.heap.size, 0, none⟩ = some (.int .i64 a) := by rw [hW1]; simp
      have f1 : W1.cell? ⟨wr.heap.size, 1, none⟩ = some (.int .i64 b) := by rw [hW1]; simp
      have f2 : W1.cell? ⟨wr.heap.size, 2, none⟩ = some (.slice x.2.1 x.1.length x.2.2) := by rw [hW1]; simp
      have hz1 : wr.heap.size < W1.heap.size := by rw [hW1]; simp
      have hxq1 : SqsAt W1 W1.heap.size x.2.1 x.1 := (hxq.below hb1).mono hb1.size
      have hB1 : Below w2.heap.size w2 W1 := hbr.trans (hb1.mono hbr.size)
      have HROW1 := Lib.hid (own_keep HROW.out hb1)
      have HX := Lib.hid hx
      have hn1 := hG.2.2.1.2
      have hGM := fL_good hab hG
      have hn2 := hGM.2.2.1.2
      have hbd := hG.1
      have hbd2 := hG.2.1
      have C1 := fun w' (h : SqsAt w' w'.heap.size x.2.1 x.1) => turnM_any a b hab x.2.1 x.1.length x.2.2 x.1 w' rfl hxc h hG
      have HS1 := Lib.hid (sm_goodT hG)
      have HS2 := Lib.hid (sm_goodT hGM)
      have HPX : Hid (p x.1 = dc (fL a b x.1 = x.1)) := Lib.hid (by rw [HPP.out])
      obtain ⟨M, hMM⟩ : ∃ M, fL a b x.1 = M := ⟨_, rfl⟩
      rw [hMM] at hGM hn2 HS2 HPX
      simp only [hMM] at C1
      have HC1 := Lib.hid C1
      clear hMM C1 hG hGM d0 d1 d2 hRk hx hxs hxq hbr
      have C2 := fun (w' : World) (h : SqsAt w' w'.heap.size x.2.1 x.1) => cuText_any a b x.2.1 x.1.length x.2.2 x.1 w' rfl (by omega) (by omega) (by omega) h HS1.out
      have C3 := fun (w' : World) (A8 : Option Addr) (c8 : Nat) (h : SqsAt w' w'.heap.size A8 M) => cuText_any a b A8 M.length c8 M w' rfl (by omega) (by omega) (by omega) h HS2.out
      have HE := Lib.hid (tx_eqT a b HS1.out HS2.out)
      obtain ⟨t1, ht1⟩ : ∃ t1, bas (txC (a : Int).toNat (b : Int).toNat x.1) = t1 := ⟨_, rfl⟩
      obtain ⟨t2, ht2⟩ : ∃ t2, bas (txC (a : Int).toNat (b : Int).toNat M) = t2 := ⟨_, rfl⟩
      simp only [ht1] at C2
      simp only [ht2] at C3
      have HC2 := Lib.hid C2
      have HC3 := Lib.hid C3
      have HQ : Hid ((t2.toList == t1.toList) = dc (M = x.1)) := Lib.hid (by rw [← ht1, ← ht2]; exact HE.out)
      clear ht1 ht2 C2 C3 HE
      go_wp2_with fail
      rw [← hW1]
      clear hW1 c0 c1' c2
      by_cases h0 : M = x.1
      · have e1 : (t2.toList == t1.toList) = true := HQ.out.trans (dc_true h0)
        have HP : Hid (p x.1 = true) := Lib.hid (HPX.out.trans (dc_true h0))
        clear h0
        go_region_held3 (fun w' => Below W1.heap.size W1 w' ∧ W1.heap.size ≤ w'.heap.size ∧ ∀ b o, b < W1.heap.size → w'.cell? ⟨b, o, none⟩ = W1.cell? ⟨b, o, none⟩)
          (first | exact keepS (by assumption) (by assumption) | exact ⟨(Below.refl _ _).drew, Nat.le_refl _, fun _ _ _ => rfl⟩)
          (first
            | (go_at_call 55; (with_reducible refine (HC1.out _ (sqsS hxq1 (by assumption))).mono ?_); rintro e w8 ⟨A8, c8, rfl, ho8, hb8⟩)
            | (go_at_call 73; (with_reducible refine (HC2.out _ (sqsS hxq1 (by assumption))).mono ?_); rintro e w9 ⟨rfl, hb9⟩)
            | (go_at_call 73; (with_reducible refine (HC3.out _ _ _ (by assumption)).mono ?_); rintro e w9 ⟨rfl, hb9⟩))
        have hS9 := (belowS (B := W1.heap.size) (wp := w9) (by assumption))
        have hbe : Below w2.heap.size w2 w9 := hB1.trans (hS9.mono hB1.size)
        have hown1 := own_keep HROW1.out hS9
        have hs9 := hS9.size
        have hbl : Ds.length + 1 ≤ maxLen := by unfold maxLen; omega
        have hby : (Ds.length + 1) * 40 ≤ 140737488355328 := by omega
        clear hxq1
        go_wp2_with (at_builtin; refine app_list rfl _ _ _ rfl w2.heap.size 28 i0 (.agg #[.int .i64 0, .int .i64 0, .slice none 0 0]) 3 40 Try.underlying38 hi hy0 hy1 hy2 rfl (by decide) (.slice A1 Ds.length c1) Ds.length _ rfl (hown1.alloc _) (some ⟨w9.heap.size, 0, none⟩) 1 1 [.int .i64 a, .int .i64 b, .slice x.2.1 x.1.length x.2.2] rfl rfl (.inr ⟨_, rfl, newT _ _ _ _ _⟩) (oneCut _ _ _ _ _) hbl hby (by simp; omega) ?_; intro v' w4 hown4 hgr4 hv4)
        obtain ⟨A4, c4, rfl⟩ := own_val hown4
        have hBz := (hbe.alloc (by omega) (.cells #[.int .i64 a, .int .i64 b, .slice x.2.1 x.1.length x.2.2] 28)).grown hgr4 (by simp; omega) (fun j hj => (hown1.lt j hj).1)
        clear hgr4 hown1
        go_roundw
        case rel => exact ⟨k + 1, Ds ++ [x], A4, c4, by omega, by go_num, by rw [List.length_append]; rfl, by rw [List.length_append]; simp; omega, by rw [List.map_append, HDM.out, filter_succ p R k x.1 HR.out, HP.out]; rfl, fun y hy => by
          rcases List.mem_append.1 hy with hy | hy
          · exact HDS.out y hy
          · simp only [List.mem_singleton] at hy; subst hy; exact hxm, by rw [List.length_append, cutsV_app]; simpa [cutsV, cutV] using hown4, hBz⟩
        case measure => simp [intOf]; omega
      · have e1 : (t2.toList == t1.toList) = false := HQ.out.trans (dc_false h0)
        have HP : Hid (p x.1 = false) := Lib.hid (HPX.out.trans (dc_false h0))
        clear h0
        go_region_held3 (fun w' => Below W1.heap.size W1 w' ∧ W1.heap.size ≤ w'.heap.size ∧ ∀ b o, b < W1.heap.size → w'.cell? ⟨b, o, none⟩ = W1.cell? ⟨b, o, none⟩)
          (first | exact keepS (by assumption) (by assumption) | exact ⟨(Below.refl _ _).drew, Nat.le_refl _, fun _ _ _ => rfl⟩)
          (first
            | (go_at_call 55; (with_reducible refine (HC1.out _ (sqsS hxq1 (by assumption))).mono ?_); rintro e w8 ⟨A8, c8, rfl, ho8, hb8⟩)
            | (go_at_call 73; (with_reducible refine (HC2.out _ (sqsS hxq1 (by assumption))).mono ?_); rintro e w9 ⟨rfl, hb9⟩)
            | (go_at_call 73; (with_reducible refine (HC3.out _ _ _ (by assumption)).mono ?_); rintro e w9 ⟨rfl, hb9⟩))
        have hS9 := (belowS (B := W1.heap.size) (wp := w9) (by assumption))
        have hbe : Below w2.heap.size w2 w9 := hB1.trans (hS9.mono hB1.size)
        have hown1 := own_keep HROW1.out hS9
        clear f0 f1 f2 hxq1
        go_wp2_with fail
        go_roundw
        case rel => exact ⟨k + 1, Ds, A1, c1, by omega, by go_num, rfl, by omega, by rw [HDM.out, filter_succ p R k x.1 HR.out, HP.out]; simp, HDS.out, hown1, hbe⟩
        case measure => simp [intOf]; omega
    · obtain rfl : k = Cs.length := by omega
      go_wp2_with fail
      go_ret
      have hall : (R.take Cs.length).filter p = R.filter p := by rw [HCC.out, List.take_length]
      exact ⟨A1, c1, Ds, rfl, HDM.out.trans hall, ⟨own_base HROW.out hs20, fun y hy => own_keep (HCL.out.sq y (HDS.out y hy)) hbr⟩, HB2.out.trans (hbr.mono hs20)⟩
set_option maxRecDepth 100000 in
theorem ctT_any (a b : Nat) (hok : okL a b = true) (w : World) :
    Calls Try.prog 71 #[.int .i64 a, .int .i64 b] w (RetT w (max (a : Int) b) (min (a : Int) b) (ftL a b)) := by
  by_cases hab : b ≤ a
  · rw [show max (a : Int) b = a by omega, show min (a : Int) b = b by omega]
    exact ctT_wide a b hab hok w
  · rw [show max (a : Int) b = b by omega, show min (a : Int) b = a by omega, ftL_swap]
    have hok2 : okL b a = true := by
      have := okL_nat.1 hok
      refine okL_nat.2 ⟨⟨this.1.2, this.1.1⟩, ?_⟩
      rw [Nat.mul_comm]; exact this.2
    have HC := Lib.hid (ctT_wide b a (by omega) hok2 w)
    have i1 : (a : Int) < (b : Int) := by omega
    clear hok hok2
    go_enter Try.func71, Try.ntmps71
    go_wp2_with fail
    refine HC.out.mono ?_
    rintro e w2 ⟨A, c, Ds, rfl, hm, hCL, hb⟩
    go_wp2_with fail
    go_ret
    exact ⟨A, c, Ds, rfl, hm, hCL, hb⟩
noncomputable def ftM (W H : Int) : List (List Sq) := if okL W H then ftL W.toNat H.toNat else []
theorem ftM_len (W H : Int) : (ftM W H).length ≤ 65536 ∧ ∀ L ∈ ftM W H, L.length ≤ 36 := by
  unfold ftM
  cases hok : okL W H with
  | false => exact ⟨by simp, fun L hL => by simp at hL⟩
  | true =>
    obtain ⟨a, b, rfl, rfl⟩ := okL_ex hok
    have hok2 : okL (max a b : Nat) (min a b : Nat) = true := by
      have := okL_nat.1 hok
      refine okL_nat.2 ⟨by omega, ?_⟩
      by_cases h : b ≤ a
      · rw [show max a b = a by omega, show min a b = b by omega]; exact this.2
      · rw [show max a b = b by omega, show min a b = a by omega, Nat.mul_comm]; exact this.2
    have h1 := allF_few hok2
    have hl : (ftL a b).length ≤ (allF (max a b) (min a b)).length := List.length_filter_le _ _
    refine ⟨?_, fun L hL => ?_⟩
    · show (ftL (a : Int).toNat (b : Int).toNat).length ≤ 65536
      simp only [Int.toNat_natCast]; omega
    · have hL' : L ∈ ftL a b := by simpa using hL
      unfold ftL at hL'
      have := (allF_good hok2 L (List.mem_filter.1 hL').1).2.2.1.2
      omega
/-- First turns in a list, and a bool. -/
def RetFt (w : World) (W H : Int) (e : Ending) (w' : World) : Prop :=
  ∃ A c Ds, e = .returned (.tuple #[.slice A Ds.length c, .bool (okL W H)]) ∧ Ds.map (·.1) = ftM W H ∧ CL w.heap.size (max W H) (min W H) Ds (.slice A Ds.length c) w' ∧ (Ds.Pairwise fun x y => ∀ b, blk x = some b → blk y ≠ some b) ∧ Below w.heap.size w w'
def RetFs (w : World) (W H : Int) (e : Ending) (w' : World) : Prop :=
  ∃ A c Ds, e = .returned (.tuple #[.slice A Ds.length c, .bool (okL W H)]) ∧ Ds.map (·.1) = ftM W H ∧ CL w.heap.size (max W H) (min W H) Ds (.slice A Ds.length c) w' ∧ Below w.heap.size w w'
set_option maxRecDepth 100000 in
theorem specFt_any (W H : Int) (w : World) : Calls Try.prog 33 #[.int .i64 W, .int .i64 H] w (RetFs w W H) := by
  have hs := ctFew_any W H w
  cases hok : okL W H with
  | false =>
    rw [hok] at hs
    have HOK := Lib.hid hok
    clear hok
    go_enter Try.func33, Try.ntmps33
    go_wp2_with fail
    refine hs.mono ?_
    rintro e w' ⟨rfl, rfl⟩
    go_wp2_with fail
    go_ret2
    unfold RetFs ftM
    rw [HOK.out]
    exact ⟨none, 0, [], rfl, rfl, ⟨World.ownsRow_nil _ _ _ _, fun x hx => (by cases hx)⟩, Below.refl _ _⟩
  | true =>
    obtain ⟨a, b, rfl, rfl⟩ := okL_ex hok
    rw [hok] at hs
    have HC := Lib.hid (ctT_any a b hok w)
    have HOK := Lib.hid hok
    clear hok
    go_enter Try.func33, Try.ntmps33
    go_wp2_with fail
    refine hs.mono ?_
    rintro e w' ⟨rfl, rfl⟩
    go_wp2_with fail
    refine HC.out.mono ?_
    rintro e w2 ⟨A, c, Ds, rfl, hm, hCL, hb⟩
    have HM := Lib.hid hm
    clear hm
    go_wp2_with fail
    go_ret2
    unfold RetFs ftM
    rw [HOK.out]
    exact ⟨A, c, Ds, rfl, HM.out, hCL, hb⟩
set_option maxRecDepth 100000 in
theorem specCtd_any (W H : Int) (w : World) : Calls Try.prog 31 #[.int .i64 W, .int .i64 H] w fun e w' => e = .returned (.tuple #[.int .i64 ((ftM W H).length : Nat), .bool (okL W H)]) ∧ Below w.heap.size w w' := by
  have hs := ctFew_any W H w
  cases hok : okL W H with
  | false =>
    rw [hok] at hs
    have e : (ftM W H).length = 0 := by unfold ftM; rw [hok]; rfl
    rw [e]
    clear hok e
    go_enter Try.func31, Try.ntmps31
    go_wp2_with fail
    refine hs.mono ?_
    rintro e w' ⟨rfl, rfl⟩
    go_wp2_with fail
    go_ret2
    exact ⟨rfl, Below.refl _ _⟩
  | true =>
    obtain ⟨a, b, rfl, rfl⟩ := okL_ex hok
    rw [hok] at hs
    have HC := Lib.hid (ctT_any a b hok w)
    have e : ftM a b = ftL a b := by unfold ftM; rw [hok]; rfl
    rw [e]
    clear hok e
    go_enter Try.func31, Try.ntmps31
    go_wp2_with fail
    refine hs.mono ?_
    rintro e w' ⟨rfl, rfl⟩
    go_wp2_with fail
    refine HC.out.mono ?_
    rintro e w2 ⟨A, c, Ds, rfl, hm, hCL, hb⟩
    have HM := Lib.hid hm
    clear hm
    go_wp2_with fail
    go_ret2
    exact ⟨by rw [← HM.out, List.length_map]; rfl, hb⟩
set_option maxRecDepth 100000 in
theorem implFt_any (W H : Int) (w : World) : Calls Try.prog 34 #[.int .i64 W, .int .i64 H] w (RetFt w W H) := by
  have HC := Lib.hid (implAC_any W H w)
  have HMR : Hid ((ftM W H).Pairwise F.ltQ) := Lib.hid (by
    unfold ftM
    cases hok : okL W H with
    | false => exact List.Pairwise.nil
    | true =>
      obtain ⟨a, b, rfl, rfl⟩ := okL_ex hok
      have := okL_nat.1 hok
      exact ft_sorted (by omega) (by omega))
  have HMM : ∀ R, R = (if okL W H then allF W.toNat H.toNat else []) → Hid (∀ z, z ∈ R.map (fun L => fL W H L) ↔ z ∈ ftM W H) := fun R hR => Lib.hid (by
    intro z
    unfold ftM
    rw [hR]
    cases hok : okL W H with
    | false => simp
    | true =>
      obtain ⟨a, b, rfl, rfl⟩ := okL_ex hok
      have hn := okL_nat.1 hok
      have hok2 : okL (max a b : Nat) (min a b : Nat) = true := by
        refine okL_nat.2 ⟨by omega, ?_⟩
        by_cases h : b ≤ a
        · rw [show max a b = a by omega, show min a b = b by omega]; exact hn.2
        · rw [show max a b = b by omega, show min a b = a by omega, Nat.mul_comm]; exact hn.2
      have := ft_mem (W := a) (H := b) (by omega) (by omega) (fun c d hcd L hL => by
        rcases hcd with ⟨rfl, rfl⟩ | ⟨rfl, rfl⟩
        · exact allF_good hok L hL
        · exact allF_good hok2 L hL) z
      simp only [if_true, Int.toNat_natCast]
      rw [this]
      constructor
      · intro h
        obtain ⟨L, hL, e⟩ := List.mem_map.1 h
        exact ⟨L, hL, e⟩
      · rintro ⟨L, hL, e⟩
        exact List.mem_map.2 ⟨L, hL, e⟩)
  have HGG : ∀ R, R = (if okL W H then allF W.toNat H.toNat else []) → Hid (R.length ≤ 65536 ∧ ∀ L ∈ R, Good W H L) := fun R hR => Lib.hid (by
    rw [hR]
    cases hok : okL W H with
    | false => exact ⟨by simp, fun L hL => by simp at hL⟩
    | true =>
      obtain ⟨a, b, rfl, rfl⟩ := okL_ex hok
      exact ⟨by simpa using allF_few hok, fun L hL => allF_good hok L (by simpa using hL)⟩)
  go_enter Try.func34, Try.ntmps34
  go_wp2_with fail
  refine HC.out.mono ?_
  rintro e w2 ⟨A, c, Cs, rfl, hm, hCL, hap, hb2⟩
  have HM2 := HMM _ hm
  have HG2 := HGG _ hm
  have HB2 := Lib.hid hb2
  have HCL := Lib.hid hCL
  clear hm hap hb2 hCL HMM HGG
  go_wp2_with fail
  refine (turns_any W H A c w.heap.size Cs (ftM W H) w2 (by have := HG2.out.1; rwa [List.length_map] at this) HCL.out (fun x hx => HG2.out.2 x.1 (List.mem_map_of_mem hx)) HMR.out (fun z => by have := HM2.out z; rwa [List.map_map] at this)).mono ?_
  rintro e w3 ⟨A', c', Ds, rfl, hm3, hCL3, hap3, hb3⟩
  have HM3 := Lib.hid hm3
  have HC3 := Lib.hid hCL3
  have HA3 := Lib.hid hap3
  have HB3 := Lib.hid hb3
  clear hm3 hCL3 hap3 hb3
  go_wp2_with fail
  go_ret2
  have hz := HB2.out.size
  exact ⟨A', c', Ds, rfl, HM3.out, ⟨own_base HC3.out.own hz, fun x hx => own_base (HC3.out.sq x hx) hz⟩, HA3.out, HB2.out.trans (HB3.out.mono hz)⟩
set_option maxRecDepth 100000 in
theorem implCtd_any (W H : Int) (w : World) : Calls Try.prog 32 #[.int .i64 W, .int .i64 H] w fun e w' => e = .returned (.tuple #[.int .i64 ((ftM W H).length : Nat), .bool (okL W H)]) ∧ Below w.heap.size w w' := by
  have HC := Lib.hid (implFt_any W H w)
  go_enter Try.func32, Try.ntmps32
  go_wp2_with fail
  refine HC.out.mono ?_
  rintro e w2 ⟨A, c, Ds, rfl, hm, hCL, hap, hb2⟩
  have HM := Lib.hid hm
  clear hm
  go_wp2_with fail
  go_ret2
  exact ⟨by rw [← HM.out, List.length_map]; rfl, hb2⟩
end Go.Proofs.Ytdpbjmdgjhleeaa
