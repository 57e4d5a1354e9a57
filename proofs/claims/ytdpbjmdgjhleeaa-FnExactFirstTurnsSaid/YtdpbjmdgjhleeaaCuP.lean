/- CuS, CuM: texts in one. -/
import Derived.Test.YtdpbjmdgjhleeaaCoM
import Derived.Test.YtdpbjmdgjhleeaaBaM
import Derived.BigQuiet
import Derived.Deep.QuietTactic
import Derived.Test.YtdpbjmdgjhleeaaMark
set_option linter.all false
namespace Go.Proofs.Ytdpbjmdgjhleeaa
open Go.RowKit

set_option maxRecDepth 100000 in
set_option maxHeartbeats 4000000 in
theorem eqCutS_same (W H : Int) (n0 n0' : Nat) (A A' : Option Addr) (c c' : Nat) (Cs Ds : List CV) (w : World) (hm : Cs.map (·.1) = Ds.map (·.1)) (hn : Cs.length ≤ 65536) (hs36 : ∀ x ∈ Cs, x.1.length ≤ 36)
    (hL : CL n0 W H Cs (.slice A Cs.length c) w) (hL' : CL n0' W H Ds (.slice A' Ds.length c') w) :
    Calls Try.prog 26 #[.slice A Cs.length c, .slice A' Ds.length c'] w fun e w' => e = .returned (.bool true) ∧ Below w.heap.size w w' := by
  have hlen : Cs.length = Ds.length := by have := congrArg List.length hm; simpa using this
  obtain ⟨n, hnn⟩ : ∃ n, Cs.length = n := ⟨_, rfl⟩
  have hdn : Ds.length = n := by omega
  obtain ⟨g, hg⟩ : ∃ g, g = w.heap.size := ⟨_, rfl⟩
  have hBg := Lib.hid hg
  have HL := Lib.hid hL
  have HL' := Lib.hid hL'
  have HM := Lib.hid hm
  have HNN := Lib.hid hnn
  have HDN := Lib.hid hdn
  rw [hnn] at hn ⊢
  rw [hdn]
  clear hg hL hL' hm hlen hnn hdn
  go_enter Try.func26, Try.ntmps26
  go_wp2_with fail
  go_loopw [5] (fun i wr => ∃ k : Nat, k ≤ n ∧ i = .int .i64 k ∧ Below g w wr) (fun i _ => n - (intOf i).toNat)
  case atStart => exact ⟨0, Nat.zero_le _, rfl, Below.refl _ _⟩
  case round =>
    obtain ⟨k, hk, rfl, hbr⟩ := hrel
    by_cases hlt : k < n
    · obtain ⟨x, hx⟩ : ∃ x, Cs[k]? = some x := ⟨_, List.getElem?_eq_getElem (by rw [HNN.out]; exact hlt)⟩
      obtain ⟨y, hy⟩ : ∃ y, Ds[k]? = some y := ⟨_, List.getElem?_eq_getElem (by rw [HDN.out]; exact hlt)⟩
      have hxy : x.1 = y.1 := by
        have := congrArg (·[k]?) HM.out
        simp only [List.getElem?_map, hx, hy, Option.map_some, Option.some.injEq] at this
        exact this
      have hxm := List.mem_of_getElem? hx
      have hx36 := hs36 x hxm
      obtain ⟨b, rfl⟩ := own_form HL.out.own (show 0 < Cs.length by rw [HNN.out]; omega)
      obtain ⟨b', rfl⟩ := own_form HL'.out.own (show 0 < Ds.length by rw [HDN.out]; omega)
      have hb : b < g := by rw [hBg.out]; exact (own_lt HL.out.own).2
      have hb' : b' < g := by rw [hBg.out]; exact (own_lt HL'.out.own).2
      obtain ⟨d0, d1, d2⟩ := HL.out.at hx
      obtain ⟨f0, f1, f2⟩ := HL'.out.at hy
      have ho1 := HL.out.sq x hxm
      have ho2 := HL'.out.sq y (List.mem_of_getElem? hy)
      rw [← hxy] at f2 ho2
      have hsz : g ≤ wr.heap.size := by have := hbr.size; rw [hBg.out]; omega
      have C : ∀ {bb o : Nat} {v : Value}, bb < g → w.cell? ⟨bb, o, none⟩ = some v → ∀ u : Later g wr, u.val.cell? ⟨bb, o, none⟩ = some v := fun hbb h u => ((hbr.trans u.ok).cell (p := ⟨_, _, none⟩) hbb).trans h
      have C0 := C hb d0
      have C1 := C hb d1
      have C2 := C hb d2
      have D0 := C hb' f0
      have D1 := C hb' f1
      have D2 := C hb' f2
      have q1 : SqsAt w g x.2.1 x.1 := by rw [hBg.out]; exact sqs_of_own ho1
      have q2 : SqsAt w g y.2.1 x.1 := by rw [hBg.out]; exact sqs_of_own ho2
      have HC := fun u : Later g wr => eqCut_same W H x.2.1 y.2.1 x.1.length x.2.2 y.2.2 x.1 u.val rfl (by omega) (own_cap ho1) (own_cap ho2) ((q1.below (hbr.trans u.ok)).mono (Nat.le_trans hsz u.ok.size)) ((q2.below (hbr.trans u.ok)).mono (Nat.le_trans hsz u.ok.size))
      have k0 : (0 : Int) ≤ (k : Int) := by omega
      have k1 : (k : Int) < (n : Int) := by omega
      have HHC := Lib.hid HC
      clear d0 d1 d2 f0 f1 f2 ho1 ho2 q1 q2 HC hxm hx hy hxy C
      go_wp2_with fail
      refine wp_region_sub g (by kernel_rfl) (by kernel_rfl) ?_
      repeat (first | go_big_quiet_step ((go_at_call 17; exact sub_of _ hsz (HHC.out _))) | quiet_step ((go_at_call 17; exact sub_of _ hsz (HHC.out _))))
      refine wpQuiet_nil ?_
      rintro _ ⟨⟨w2, hb2⟩, rfl⟩
      clear C0 C1 C2 D0 D1 D2
      go_wp2_with fail
      go_roundw
      case rel => exact ⟨k + 1, by omega, by go_num, hbr.trans hb2⟩
      case measure => simp [intOf]; omega
    · go_wp2_with fail
      go_ret
      exact ⟨rfl, by rw [← hBg.out]; exact hbr⟩
end Go.Proofs.Ytdpbjmdgjhleeaa
namespace Go.Proofs.Ytdpbjmdgjhleeaa
open Go.RowKit

/-- The next mark behind these cuts. -/
def endO : Int → List CV → Int
  | k, [] => k
  | k, x :: r => endO (k + 2 + 3 * (x.1.length : Int)) r
theorem endO_snoc (k : Int) (L : List CV) (x : CV) : endO k (L ++ [x]) = endO k L + 2 + 3 * (x.1.length : Int) := by
  induction L generalizing k with
  | nil => rfl
  | cons y r ih => exact ih _
theorem endO_bd (k : Int) (L : List CV) (h : ∀ x ∈ L, x.1.length ≤ 36) : k ≤ endO k L ∧ endO k L ≤ k + 110 * L.length := by
  induction L generalizing k with
  | nil => simp [endO]
  | cons y r ih =>
    have h1 := ih (k + 2 + 3 * (y.1.length : Int)) (fun x hx => h x (List.mem_cons_of_mem _ hx))
    have h2 := h y List.mem_cons_self
    simp only [endO, List.length_cons]
    omega
theorem endO_take {k0 : Int} {Cs : List CV} {k : Nat} {x : CV} (hx : Cs[k]? = some x) : endO k0 (Cs.take (k + 1)) = endO k0 (Cs.take k) + 2 + 3 * (x.1.length : Int) := by
  rw [List.take_add_one, hx]
  exact endO_snoc _ _ _
/-- The first j cuts of the list are marked. -/
structure ML (n0 : Nat) (k0 W H : Int) (Cs : List CV) (g c j : Nat) (w : World) : Prop where
  own : ∃ ys, w.ownsRow n0 28 3 (.slice (some ⟨g, 0, none⟩) Cs.length c) Cs.length ys ∧ ∀ (i : Nat) x, Cs[i]? = some x → ys[i * 3]? = some (.int .i64 (if i < j then endO k0 (Cs.take i) else W)) ∧ ys[i * 3 + 1]? = some (.int .i64 (if i < j then endO k0 (Cs.take i) + 1 else H)) ∧ ys[i * 3 + 2]? = some (.slice x.2.1 x.1.length x.2.2)
  sq : ∀ (i : Nat) x, Cs[i]? = some x → w.ownsRow n0 85 3 (.slice x.2.1 x.1.length x.2.2) x.1.length (flat (if i < j then upS (endO k0 (Cs.take i) + 2) x.1.length else x.1))
theorem ML.start {n0 : Nat} {k0 W H : Int} {Cs : List CV} {g c : Nat} {w : World} (h : CL n0 W H Cs (.slice (some ⟨g, 0, none⟩) Cs.length c) w) : ML n0 k0 W H Cs g c 0 w :=
  ⟨⟨_, h.own, fun i x hx => by
    obtain ⟨h0, h1, h2⟩ := cutsV_get W H Cs i x hx
    simpa using ⟨h0, h1, h2⟩⟩, fun i x hx => by simpa using h.sq x (List.mem_of_getElem? hx)⟩
theorem ML.keep {n0 : Nat} {k0 W H : Int} {Cs : List CV} {g c j : Nat} {w w' : World} (h : ML n0 k0 W H Cs g c j w) (hb : Below w.heap.size w w') : ML n0 k0 W H Cs g c j w' := by
  obtain ⟨ys, ho, hp⟩ := h.own
  exact ⟨⟨ys, own_keep ho hb, hp⟩, fun i x hx => own_keep (h.sq i x hx) hb⟩
theorem ML.put {n0 : Nat} {k0 W H : Int} {Cs : List CV} {g c k : Nat} {w : World} {x : CV} (h : ML n0 k0 W H Cs g c k w) (hx : Cs[k]? = some x) (hap : Cs.Pairwise fun x y => ∀ b, blk x = some b → blk y ≠ some b) (q : Int) (hq : q = endO k0 (Cs.take k)) :
    w.cell? ⟨g, k * 3 + 2, none⟩ = some (.slice x.2.1 x.1.length x.2.2) ∧ ((w.setCell ⟨g, k * 3, none⟩ (.int .i64 q)).setCell ⟨g, k * 3 + 1, none⟩ (.int .i64 (q + 1))).ownsRow n0 85 3 (.slice x.2.1 x.1.length x.2.2) x.1.length (flat x.1) ∧
    Below n0 w ((w.setCell ⟨g, k * 3, none⟩ (.int .i64 q)).setCell ⟨g, k * 3 + 1, none⟩ (.int .i64 (q + 1))) ∧
    ∀ w3, w3.ownsRow n0 85 3 (.slice x.2.1 x.1.length x.2.2) x.1.length (flat (upS (q + 2) x.1.length)) → ((w.setCell ⟨g, k * 3, none⟩ (.int .i64 q)).setCell ⟨g, k * 3 + 1, none⟩ (.int .i64 (q + 1))).grownBy w3 (blk x) → ML n0 k0 W H Cs g c (k + 1) w3 := by
  obtain ⟨ys, ho, hp⟩ := h.own
  have hk := (List.getElem?_eq_some_iff.1 hx).1
  have hyl : ys.length = Cs.length * 3 := ho.1
  obtain ⟨R1, G1⟩ := ho.stored (k * 3) (.int .i64 q)
  obtain ⟨R2, G2⟩ := R1.stored (k * 3 + 1) (.int .i64 (q + 1))
  have hne : ∀ (i : Nat) y, Cs[i]? = some y → ∀ b, blk y = some b → some g ≠ some b := fun i y hy b hb e => by
    cases e
    exact rows_ne (h.sq i y hy) ho (by decide) g hb rfl
  have rows : ∀ (i : Nat) y, Cs[i]? = some y → ((w.setCell ⟨g, k * 3, none⟩ (.int .i64 q)).setCell ⟨g, k * 3 + 1, none⟩ (.int .i64 (q + 1))).ownsRow n0 85 3 (.slice y.2.1 y.1.length y.2.2) y.1.length (flat (if i < k then upS (endO k0 (Cs.take i) + 2) y.1.length else y.1)) := fun i y hy =>
    own_far (own_far (h.sq i y hy) G1 (fun b hb => hne i y hy b hb)) G2 (fun b hb => hne i y hy b hb)
  have hgn : n0 ≤ g := (ho.lt g rfl).1
  refine ⟨(ho.cellAt (k * 3 + 2) (by omega)).trans (hp k x hx).2.2, by simpa using rows k x hx, ((Below.refl n0 w).setCell (p := ⟨g, _, none⟩) hgn _).setCell (p := ⟨g, _, none⟩) hgn _, fun w3 hr hg => ⟨⟨_, own_far R2 hg (fun b hb e => ?_), fun i y hy => ?_⟩, fun i y hy => ?_⟩⟩
  · cases hb
    exact hne k x hx g e rfl
  · have hi := (List.getElem?_eq_some_iff.1 hy).1
    obtain ⟨a0, a1, a2⟩ := hp i y hy
    by_cases e : i = k
    · subst e
      refine ⟨?_, ?_, ?_⟩
      · rw [List.getElem?_set_ne (by omega), List.getElem?_set_self (by omega), if_pos (by omega), hq]
      · rw [List.getElem?_set_self (by rw [List.length_set]; omega), if_pos (by omega), hq]
      · rw [List.getElem?_set_ne (by omega), List.getElem?_set_ne (by omega)]; exact a2
    · refine ⟨?_, ?_, ?_⟩
      · rw [List.getElem?_set_ne (by omega), List.getElem?_set_ne (by omega), a0]
        have : (i < k) ↔ (i < k + 1) := by omega
        simp only [this]
      · rw [List.getElem?_set_ne (by omega), List.getElem?_set_ne (by omega), a1]
        have : (i < k) ↔ (i < k + 1) := by omega
        simp only [this]
      · rw [List.getElem?_set_ne (by omega), List.getElem?_set_ne (by omega)]; exact a2
  · by_cases e : i = k
    · subst e
      obtain rfl := Option.some.inj (hx.symm.trans hy)
      rw [if_pos (by omega), ← hq]
      exact hr
    · have h1 := own_far (rows i y hy) hg (fun b hb he => by
        have hi := (List.getElem?_eq_some_iff.1 hy).1
        have e1 : Cs[i] = y := (List.getElem?_eq_some_iff.1 hy).2
        have e2 : Cs[k] = x := (List.getElem?_eq_some_iff.1 hx).2
        rcases Nat.lt_or_gt_of_ne e with hl | hl
        · have := (List.pairwise_iff_getElem.1 hap) i k hi hk hl b (by rw [e1]; exact hb)
          rw [e2] at this
          exact this he
        · have := (List.pairwise_iff_getElem.1 hap) k i hk hi hl b (by rw [e2]; exact he)
          rw [e1] at this
          exact this hb)
      have : (i < k) ↔ (i < k + 1) := by omega
      simp only [this] at h1
      exact h1
set_option maxRecDepth 100000 in
set_option maxHeartbeats 4000000 in
theorem markCutS_any (W H : Int) (n0 : Nat) (A : Option Addr) (c : Nat) (Cs : List CV) (k0 : Int) (w : World) (hn : Cs.length ≤ 65536) (hs36 : ∀ x ∈ Cs, x.1.length ≤ 36) (h0 : 0 ≤ k0) (h1 : k0 ≤ 1000000) (hL : CL n0 W H Cs (.slice A Cs.length c) w) (hap : Cs.Pairwise fun x y => ∀ b, blk x = some b → blk y ≠ some b) :
    Calls Try.prog 27 #[.slice A Cs.length c, .int .i64 k0] w fun e w' => e = .returned (.int .i64 (endO k0 Cs)) ∧ (∀ g, A = some ⟨g, 0, none⟩ → ML n0 k0 W H Cs g c Cs.length w') ∧ Below n0 w w' := by
  have HAP := Lib.hid hap
  have H36 := Lib.hid hs36
  have HS := Lib.hid (fun (g : Nat) (e : A = some ⟨g, 0, none⟩) => ML.start (k0 := k0) (e ▸ hL))
  have HO := Lib.hid hL.own
  clear hap hs36 hL
  go_enter Try.func27, Try.ntmps27
  go_wp2_with fail
  go_loopw [1, 5] (fun q i wr => ∃ k : Nat, k ≤ Cs.length ∧ i = .int .i64 (k : Int) ∧ q = .int .i64 (endO k0 (Cs.take k)) ∧ (∀ g, A = some ⟨g, 0, none⟩ → ML n0 k0 W H Cs g c k wr) ∧ Below n0 w wr) (fun _ i _ => Cs.length - (intOf i).toNat)
  case atStart => exact ⟨0, Nat.zero_le _, rfl, rfl, HS.out, Below.refl _ _⟩
  case round =>
    obtain ⟨k, hk, rfl, rfl, hM, hbr⟩ := hrel
    have hbd := endO_bd k0 (Cs.take k) (fun x hx => H36.out x (List.mem_of_mem_take hx))
    have htl : (Cs.take k).length ≤ 65536 := by rw [List.length_take]; omega
    by_cases hlt : k < Cs.length
    · obtain ⟨x, hx⟩ : ∃ x, Cs[k]? = some x := ⟨_, List.getElem?_eq_getElem hlt⟩
      obtain ⟨g, rfl⟩ := own_form HO.out (show 0 < Cs.length by omega)
      have hML := hM g rfl
      obtain ⟨q, hq⟩ : ∃ q, endO k0 (Cs.take k) = q := ⟨_, rfl⟩
      obtain ⟨p2, pr, pb, pm⟩ := hML.put hx HAP.out q hq.symm
      obtain ⟨ys, ho, hp⟩ := hML.own
      obtain ⟨a0, a1, a2⟩ := hp k x hx
      have c0 := (ho.cellAt (k * 3) (by have := ho.1; omega)).trans a0
      have c1 := (ho.cellAt (k * 3 + 1) (by have := ho.1; omega)).trans a1
      have c2 := (ho.cellAt (k * 3 + 2) (by have := ho.1; omega)).trans a2
      have z0 := ho.frozenAt (k * 3)
      have z1 := ho.frozenAt (k * 3 + 1)
      have hx36 := H36.out x (List.mem_of_getElem? hx)
      have hgl := ho.lt g rfl
      have hend := endO_take (k0 := k0) hx
      rw [hq] at hbd hend ⊢
      have HEND := Lib.hid hend
      have PM := Lib.hid pm
      have PB := Lib.hid pb
      have PR := Lib.hid pr
      have k0' : (0 : Int) ≤ (k : Int) := by omega
      have k1' : (k : Int) < (Cs.length : Int) := by omega
      have w1 : IntKind.i64.wrap (q + 1) = q + 1 := IntWalk.i64_in _ (by omega)
      have w2 : IntKind.i64.wrap (q + 1 + 1) = q + 1 + 1 := IntWalk.i64_in _ (by omega)
      clear hM hML hp ho a0 a1 a2 hx hend pm pb pr p2 hq
      go_wp2_with fail
      refine (markSquareS_any x.2.1 x.1.length x.2.2 n0 _ (q + 1 + 1) _ (by omega) (by omega) (by omega) PR.out).mono ?_
      rintro e w3 ⟨rfl, ho3, hg3⟩
      have e2 : q + 1 + 1 = q + 2 := by omega
      rw [e2] at ho3
      have HML3 := Lib.hid (PM.out w3 ho3 hg3)
      have HB3 : Hid (Below n0 w w3) := Lib.hid ((hbr.trans PB.out).grown hg3 (by simp <;> omega) (fun kk e => (PR.out.lt kk e).1))
      clear ho3 hg3 hbr c0 c1 c2 z0 z1
      go_wp2_with fail
      go_roundw
      case rel => exact ⟨k + 1, by omega, by go_num, by first | (rw [HEND.out]; done) | (rw [HEND.out]; congr 1; omega), fun g' e => (by cases e; exact HML3.out), HB3.out⟩
      case measure => simp [intOf]; omega
    · obtain rfl : k = Cs.length := by omega
      rw [List.take_length]
      go_wp2_with fail
      go_ret
      exact ⟨rfl, hM, hbr⟩
set_option maxRecDepth 100000 in
set_option maxHeartbeats 4000000 in
theorem heldCutS_any (W H : Int) (n0 : Nat) (A : Option Addr) (c : Nat) (Cs : List CV) (k0 : Int) (w : World) (hn : Cs.length ≤ 65536) (hs36 : ∀ x ∈ Cs, x.1.length ≤ 36) (h0 : 0 ≤ k0) (h1 : k0 ≤ 1000000) (hA : Cs ≠ [] → ∃ g, A = some ⟨g, 0, none⟩ ∧ ML n0 k0 W H Cs g c Cs.length w) :
    Calls Try.prog 28 #[.slice A Cs.length c, .int .i64 k0] w fun e w' => e = .returned (.int .i64 (endO k0 Cs)) ∧ w = w' := by
  have H36 := Lib.hid hs36
  have HA := Lib.hid hA
  clear hs36 hA
  go_enter Try.func28, Try.ntmps28
  go_wp2_with fail
  go_loop [1, 5] (fun q i => ∃ k : Nat, k ≤ Cs.length ∧ i = .int .i64 (k : Int) ∧ q = .int .i64 (endO k0 (Cs.take k))) (fun _ i => Cs.length - (intOf i).toNat)
  case atStart => exact ⟨0, Nat.zero_le _, rfl, rfl⟩
  case round =>
    obtain ⟨k, hk, rfl, rfl⟩ := hrel
    have hbd := endO_bd k0 (Cs.take k) (fun x hx => H36.out x (List.mem_of_mem_take hx))
    have htl : (Cs.take k).length ≤ 65536 := by rw [List.length_take]; omega
    by_cases hlt : k < Cs.length
    · obtain ⟨x, hx⟩ : ∃ x, Cs[k]? = some x := ⟨_, List.getElem?_eq_getElem hlt⟩
      obtain ⟨g, rfl, hML⟩ := HA.out (fun e => by rw [e] at hlt; cases hlt)
      obtain ⟨q, hq⟩ : ∃ q, endO k0 (Cs.take k) = q := ⟨_, rfl⟩
      obtain ⟨ys, ho, hp⟩ := hML.own
      obtain ⟨a0, a1, a2⟩ := hp k x hx
      rw [if_pos hlt, hq] at a0 a1
      have c0 := (ho.cellAt (k * 3) (by have := ho.1; omega)).trans a0
      have c1 := (ho.cellAt (k * 3 + 1) (by have := ho.1; omega)).trans a1
      have c2 := (ho.cellAt (k * 3 + 2) (by have := ho.1; omega)).trans a2
      have hr := hML.sq k x hx
      rw [if_pos hlt, hq] at hr
      have hx36 := H36.out x (List.mem_of_getElem? hx)
      have hend := endO_take (k0 := k0) hx
      rw [hq] at hbd hend ⊢
      have HEND := Lib.hid hend
      have e2 : q + 1 + 1 = q + 2 := by omega
      have HQ := Lib.hid (show SqsAt w w.heap.size x.2.1 (upS (q + 1 + 1) x.1.length) by rw [e2]; exact sqs_of_own hr)
      have k0' : (0 : Int) ≤ (k : Int) := by omega
      have k1' : (k : Int) < (Cs.length : Int) := by omega
      have w1 : IntKind.i64.wrap (q + 1) = q + 1 := IntWalk.i64_in _ (by omega)
      have w2 : IntKind.i64.wrap (q + 1 + 1) = q + 1 + 1 := IntWalk.i64_in _ (by omega)
      have n1 : (q != q) = false := by simp
      have n2 : (q + 1 != q + 1) = false := by simp
      have n3 : ¬ (q + 1 + 1 + 3 * (x.1.length : Int)) < 0 := by omega
      clear hML hp ho a0 a1 a2 hx hend hr hq e2
      go_wp2_with fail
      refine (heldSquareS_any x.2.1 x.1.length x.2.2 (q + 1 + 1) w (by omega) (by omega) (by omega) HQ.out).mono ?_
      rintro e w3 ⟨rfl, rfl⟩
      go_wp2_with fail
      go_round
      case rel => exact ⟨k + 1, by omega, by go_num, by first | (rw [HEND.out]; done) | (rw [HEND.out]; congr 1; omega)⟩
      case measure => simp [intOf]; omega
    · obtain rfl : k = Cs.length := by omega
      rw [List.take_length]
      go_wp2_with fail
      go_ret
      exact ⟨rfl, rfl⟩
end Go.Proofs.Ytdpbjmdgjhleeaa
