/- CountMirrored: the program's and the model's. -/
import Derived.Test.YtdpbjmdgjhleeaaLsM
import Derived.Test.YtdpbjmdgjhleeaaLwM
import Derived.Test.YtdpbjmdgjhleeaaTurnT
import Derived.Test.YtdpbjmdgjhleeaaSam
import Derived.Test.YtdpbjmdgjhleeaaTxM
import Derived.BigQuiet
set_option linter.all false
namespace Go.Proofs.Ytdpbjmdgjhleeaa
open Go.RowKit Go.Shelf

/-- Left and right may be exchanged. -/
noncomputable def pMir (W : Int) (L : List Sq) : Bool := dc (L = srt (mirL W L))
theorem mirO_any (W H : Int) (A : Option Addr) (n c : Nat) (L : List Sq) (w : World) (hl : L.length = n) (hc : n ≤ c) (hL : SqsAt w w.heap.size A L) (hG : Good W H L) :
    Calls Try.prog 51 #[.agg #[.int .i64 W, .int .i64 H, .slice A n c]] w fun e w' => ∃ A' c', e = .returned (.agg #[.int .i64 W, .int .i64 H, .slice A' (srt (mirL W L)).length c']) ∧ SqsAt w' w'.heap.size A' (srt (mirL W L)) ∧ Below w.heap.size w w' :=
  (mirrored_any W H A n c L w hl hc hL hG).mono (by
    rintro e w' ⟨A', c', T, rfl, hp, hs, ho, hb⟩
    obtain rfl := srt_uniq hp hs ((fill_mir (good_fill hG)).dist)
    have e : (mirL W L).length = (srt (mirL W L)).length := (srt_len _).symm
    rw [e] at ho ⊢
    exact ⟨A', c', rfl, sqs_of_own ho, hb⟩)
theorem mirM_any (W H : Int) (A : Option Addr) (n c : Nat) (L : List Sq) (w : World) (hl : L.length = n) (hc : n ≤ c) (hL : SqsAt w w.heap.size A L) (hG : Good W H L) :
    Calls Try.prog 48 #[.agg #[.int .i64 W, .int .i64 H, .slice A n c]] w fun e w' => ∃ A' c', e = .returned (.agg #[.int .i64 W, .int .i64 H, .slice A' (srt (mirL W L)).length c']) ∧ SqsAt w' w'.heap.size A' (srt (mirL W L)) ∧ Below w.heap.size w w' :=
  (cuMirror_any W H A n c L w hl hc hL hG).mono (by
    rintro e w' ⟨A', c', T, rfl, hp, hs, ho, hb⟩
    obtain rfl := srt_uniq hp hs ((fill_mir (good_fill hG)).dist)
    have e : (mirL W L).length = (srt (mirL W L)).length := (srt_len _).symm
    rw [e] at ho ⊢
    exact ⟨A', c', rfl, sqs_of_own ho, hb⟩)
set_option maxRecDepth 100000 in
set_option maxHeartbeats 2000000 in
theorem mir_told (W H : Int) (A : Option Addr) (n c : Nat) (L : List Sq) (w : World) (hl : L.length = n) (hc : n ≤ c) (hL : SqsAt w w.heap.size A L) (hG : Good W H L) :
    Calls Try.prog 74 #[.agg #[.int .i64 W, .int .i64 H, .slice A n c]] w fun e w' => e = .returned (.bool (pMir W L)) ∧ Below w.heap.size w w' := by
  subst hl
  have hn : L.length ≤ 1048576 := by have := hG.2.2.1.2; omega
  have hn' : (srt (mirL W L)).length ≤ 1048576 := by rw [srt_len, mirL_len]; exact hn
  obtain ⟨w1, hw1⟩ : ∃ w1, w1 = w.alloc (.cells #[.int .i64 W, .int .i64 H, .slice A L.length c] 28) := ⟨_, rfl⟩
  have hb1 : Below w.heap.size w w1 := by rw [hw1]; exact (Below.refl _ _).alloc (Nat.le_refl _) _
  have hz1 : w.heap.size < w1.heap.size := by rw [hw1]; simp
  have b0 : w1.cell? ⟨w.heap.size, 0, none⟩ = some (.int .i64 W) := by rw [hw1]; simp
  have b1 : w1.cell? ⟨w.heap.size, 1, none⟩ = some (.int .i64 H) := by rw [hw1]; simp
  have b2 : w1.cell? ⟨w.heap.size, 2, none⟩ = some (.slice A L.length c) := by rw [hw1]; simp
  have hL1 := (hL.below hb1).mono hb1.size
  obtain ⟨M, hM⟩ : ∃ M, srt (mirL W L) = M := ⟨_, rfl⟩
  have C1 := fun w' (h : SqsAt w' w'.heap.size A L) => mirO_any W H A L.length c L w' rfl hc h hG
  unfold pMir
  rw [hM] at hn' ⊢
  simp only [hM] at C1
  have HC1 := Lib.hid C1
  clear hM hL hG C1
  go_enter Try.func74, Try.ntmps74
  go_wp2_with fail
  rw [← hw1]
  clear hw1
  go_region_held3 (fun w' => Below w1.heap.size w1 w' ∧ w1.heap.size ≤ w'.heap.size ∧ ∀ b o, b < w1.heap.size → w'.cell? ⟨b, o, none⟩ = w1.cell? ⟨b, o, none⟩)
    (first | exact keepS (by assumption) (by assumption) | exact ⟨(Below.refl _ _).drew, Nat.le_refl _, fun _ _ _ => rfl⟩)
    (first
      | (go_at_call 51; (with_reducible refine (HC1.out _ (sqsS hL1 (by assumption))).mono ?_); rintro e w8 ⟨A8, c8, rfl, ho8, hb8⟩)
      | (go_at_call 75; (with_reducible refine (same_any W H W H A _ L.length M.length c _ L M _ rfl rfl hn hn' (sqsS hL1 (by assumption)) (by assumption)).mono ?_); rintro e w9 ⟨rfl, hb9⟩))
  have hB9 := belowS (B := w1.heap.size) (wp := w9) (by assumption)
  go_wp2_with fail
  go_ret
  exact ⟨rfl, hb1.trans (hB9.mono hb1.size)⟩
set_option maxRecDepth 100000 in
theorem one_mir (W H : Int) (L : List Sq) (A : Option Addr) (c Bi : Nat) (p : List Sq → Bool) (w : World) (hi : w.cell? ⟨Bi, 0, none⟩ = some (.func (.func 74) #[] #[]))
    (CP : ∀ V, Below w.heap.size w V → Calls Try.prog 74 #[.agg #[.int .i64 W, .int .i64 H, .slice A L.length c]] V fun e V' => e = .returned (.bool (p L)) ∧ Below V.heap.size V V') :
    Calls Try.prog 136 #[.agg #[.int .i64 W, .int .i64 H, .slice A L.length c], .pointer (some ⟨Bi, 0, none⟩)] w fun e w' => e = .returned (.int .i64 (if p L then 1 else 0)) ∧ Below w.heap.size w w' := by
  have hBi := World.block_lt_of_cell? _ _ hi
  obtain ⟨w1, hw1⟩ : ∃ w1, w1 = w.alloc (.cells #[.int .i64 W, .int .i64 H, .slice A L.length c] 28) := ⟨_, rfl⟩
  have hb1 : Below w.heap.size w w1 := by rw [hw1]; exact (Below.refl _ _).alloc (Nat.le_refl _) _
  have i1 := (hb1.cell (p := ⟨Bi, 0, none⟩) hBi).trans hi
  have C := fun w' (hb' : Below w1.heap.size w1 w') => CP w' (hb1.trans (hb'.mono hb1.size))
  obtain ⟨v, hv⟩ : ∃ v, p L = v := ⟨_, rfl⟩
  simp only [hv] at C ⊢
  have HC := Lib.hid C
  rw [hw1] at i1
  clear C CP hi hv
  go_enter Try.func136, Try.ntmps136
  go_wp2_with fail
  rw [← hw1]
  clear hw1
  refine (HC.out _ (by first | exact Below.refl _ _ | exact (Below.refl _ _).drew | exact below_drewN (Below.refl _ _) _)).mono ?_
  rintro e w2 ⟨rfl, hb2⟩
  have hB2 := hb1.trans (hb2.mono hb1.size)
  clear i1
  cases v
  · go_wp2_with fail
    go_ret
    exact ⟨rfl, hB2⟩
  · go_wp2_with fail
    go_ret
    exact ⟨rfl, hB2⟩
set_option maxRecDepth 100000 in
theorem countL_mir (W H : Nat) (hok : okL W H = true) (p : List Sq → Bool) (w : World)
    (CP : ∀ V L A c, Below w.heap.size w V → L ∈ allF W H → L.length ≤ c → SqsAt V V.heap.size A L → Calls Try.prog 74 #[.agg #[.int .i64 W, .int .i64 H, .slice A L.length c]] V fun e V' => e = .returned (.bool (p L)) ∧ Below V.heap.size V V') :
    Calls Try.prog 69 #[.int .i64 W, .int .i64 H, .func (.func 74) #[] #[]] w fun e w' => e = .returned (.tuple #[.int .i64 (cntL W H p), .bool true]) ∧ Below w.heap.size w w' := by
  have hh := okL_nat.1 hok
  obtain ⟨w1, hw1⟩ : ∃ w1, w1 = (w.alloc (.cells #[.int .i64 W] 3)).alloc (.cells #[.int .i64 H] 3) := ⟨_, rfl⟩
  have hz1 : w1.heap.size = w.heap.size + 2 := by rw [hw1]; simp
  have hb1 : Below w.heap.size w w1 := by rw [hw1]; exact ((Below.refl _ _).alloc (Nat.le_refl _) _).alloc (by simp) _
  have cw : w1.cell? ⟨w.heap.size, 0, none⟩ = some (.int .i64 W) := by rw [hw1, World.cell?_alloc_lt _ _ _ (by simp)]; simp [go_sem]
  have ch : w1.cell? ⟨w.heap.size + 1, 0, none⟩ = some (.int .i64 H) := by rw [hw1]; simp [go_sem]
  obtain ⟨w2, hw2⟩ : ∃ w2, w2 = w1.alloc (.cells #[.func (.func 74) #[] #[]] 55) := ⟨_, rfl⟩
  have hb2 : Below w1.heap.size w1 w2 := by rw [hw2]; exact (Below.refl _ _).alloc (Nat.le_refl _) _
  have hB2 := hb1.trans (hb2.mono hb1.size)
  have q : ∀ {b : Nat} {v : Value}, w1.cell? ⟨b, 0, none⟩ = some v → w2.cell? ⟨b, 0, none⟩ = some v := fun h => (hb2.cell (p := ⟨_, 0, none⟩) (World.block_lt_of_cell? _ _ h)).trans h
  have i1 : w2.cell? ⟨w1.heap.size, 0, none⟩ = some (.func (.func 74) #[] #[]) := by rw [hw2]; simp [go_sem]
  have CS := sumC_p W H (by omega) (by omega) w.heap.size (w.heap.size + 1) w1.heap.size (fun L => if p L then 1 else 0) w2 (q cw) (q ch) (fun V L A c hb hL hcap hsq =>
    one_mir W H L A c w1.heap.size p V ((hb.cell (p := ⟨w1.heap.size, 0, none⟩) (World.block_lt_of_cell? _ _ i1)).trans i1) (fun V' hb' => CP V' L A c (hB2.trans ((hb.trans (hb'.mono hb.size)).mono hB2.size)) hL hcap ((hsq.below hb').mono hb'.size)))
  rw [wtell_is] at CS
  have hlen : ((allF W H).filter p).length ≤ 65536 := Nat.le_trans (List.length_filter_le _ _) (allF_few hok)
  rw [w_in (by omega) (by omega)] at CS
  have HC := Lib.hid CS
  have C0 := listed_yes W H hok w
  rw [← hw1] at C0
  rw [cntL_yes hok]
  have CC : Calls Try.prog 116 #[.func (.func 152) #[] #[.pointer (some ⟨w.heap.size, 0, none⟩), .pointer (some ⟨w.heap.size + 1, 0, none⟩)], .func (.func 74) #[] #[]] w1 fun e w' => e = .returned (.int .i64 (((allF W H).filter p).length : Nat)) ∧ Below w1.heap.size w1 w' := by
    clear CS q i1 cw ch CP C0 hlen hok hw1 hz1
    go_enter Try.func116, Try.ntmps116
    go_wp2_with fail
    rw [← hw2]
    refine HC.out.mono ?_
    rintro e w3 ⟨rfl, hb3⟩
    clear hw2
    go_wp2_with fail
    go_ret
    exact ⟨rfl, hb2.trans (hb3.mono hb2.size)⟩
  have HCC := Lib.hid CC
  have HC0 := Lib.hid C0
  clear CS q i1 cw ch CP C0 hlen hok HC CC hw2 hw1
  go_enter Try.func69, Try.ntmps69
  go_wp2_with fail
  refine HC0.out.mono ?_
  rintro e w3 ⟨rfl, rfl⟩
  go_wp2_with fail
  refine HCC.out.mono ?_
  rintro e w4 ⟨rfl, hb4⟩
  go_wp2_with fail
  go_ret2
  exact ⟨rfl, hb1.trans (hb4.mono hb1.size)⟩
set_option maxRecDepth 100000 in
theorem impl_mir (W H : Int) (w : World) : Calls Try.prog 36 #[.int .i64 W, .int .i64 H] w fun e w' => e = .returned (.tuple #[.int .i64 (cntL W H (pMir W)), .bool (okL W H)]) ∧ Below w.heap.size w w' := by
  cases hok : okL W H with
  | false =>
    rw [cntL_no hok]
    have C := countListed_no W H hok (.func 74) #[] #[] w
    clear hok
    go_enter Try.func36, Try.ntmps36
    go_wp2_with fail
    refine C.mono ?_
    rintro e w2 ⟨rfl, hb2⟩
    go_wp2_with fail
    go_ret2
    exact ⟨rfl, hb2⟩
  | true =>
    obtain ⟨a, b, rfl, rfl⟩ := okL_ex hok
    have C := countL_mir a b hok (pMir (a : Int)) w (fun V L A c hb hL hc hsq => mir_told a b A L.length c L V rfl hc hsq (allF_good hok L hL))
    obtain ⟨v, hv⟩ : ∃ v, cntL a b (pMir (a : Int)) = v := ⟨_, rfl⟩
    rw [hv] at C ⊢
    have HC := Lib.hid C
    clear hok hv C
    go_enter Try.func36, Try.ntmps36
    go_wp2_with fail
    refine HC.out.mono ?_
    rintro e w2 ⟨rfl, hb2⟩
    go_wp2_with fail
    go_ret2
    exact ⟨rfl, hb2⟩
theorem sm_good {W H : Int} {L : List Sq} (hG : Good W H L) : ∀ s ∈ L, SmS s := fun s hs => by
  have h1 := (good_fill hG).within s hs
  have h2 := hG.1
  have h3 := hG.2.1
  unfold Within at h1
  unfold SmS
  omega
theorem bas_toL (l : List UInt8) : (bas l).toList = l := by rw [ByteArray.toList_eq]; rfl
theorem tx_eq (a b : Nat) {L M : List Sq} (hL : ∀ s ∈ L, SmS s) (hM : ∀ s ∈ M, SmS s) : ((bas (txC (a : Int).toNat (b : Int).toNat M)).toList == (bas (txC (a : Int).toNat (b : Int).toNat L)).toList) = dc (L = M) := by
  rw [bas_toL, bas_toL]
  by_cases h : L = M
  · rw [dc_true h, h]; exact beq_self_eq_true _
  · rw [dc_false h]
    refine beq_eq_false_iff_ne.2 fun e => h ?_
    exact (txC_inj hM hL e).2.2.symm
set_option maxRecDepth 100000 in
set_option maxHeartbeats 4000000 in
theorem spec_mir (W H : Int) (w : World) : Calls Try.prog 35 #[.int .i64 W, .int .i64 H] w fun e w' => e = .returned (.tuple #[.int .i64 (cntL W H (pMir W)), .bool (okL W H)]) ∧ Below w.heap.size w w' := by
  have hs := ctFew_any W H w
  cases hok : okL W H with
  | false =>
    rw [cntL_no hok]
    rw [hok] at hs
    go_enter Try.func35, Try.ntmps35
    go_wp2_with fail
    refine hs.mono ?_
    rintro e w' ⟨rfl, rfl⟩
    go_wp2_with fail
    go_ret2
    exact ⟨rfl, Below.refl _ _⟩
  | true =>
    obtain ⟨a, b, rfl, rfl⟩ := okL_ex hok
    have hh := okL_nat.1 hok
    rw [hok] at hs
    rw [cntL_yes hok]
    have hgood := allF_good hok
    have hfew := allF_few hok
    have C := ctAll_any a b (by omega) (by omega) (by omega) w
    rw [show fills 6 b (a * b) (List.replicate a 0) = allF a b from rfl] at C
    obtain ⟨R, hR⟩ : ∃ R, allF a b = R := ⟨_, rfl⟩
    rw [hR] at C hgood hfew ⊢
    have HG := Lib.hid hgood
    have HF := Lib.hid hfew
    clear hok hR hgood hfew
    go_enter Try.func35, Try.ntmps35
    go_wp2_with fail
    refine hs.mono ?_
    rintro e w' ⟨rfl, rfl⟩
    go_wp2_with fail
    refine C.mono ?_
    rintro e w2 ⟨A9, c9, Cs, rfl, hm, hCL, hb2⟩
    have hCl : Cs.length = R.length := by rw [← hm, List.length_map]
    have hCs : Cs.length ≤ 65536 := by have := HF.out; omega
    have HCC := Lib.hid hCl
    have HM := Lib.hid hm
    have HCL := Lib.hid hCL
    have HB2 := Lib.hid hb2
    clear C hs hm hCL hb2 hCl
    go_wp2_with fail
    go_loopw [6, 17] (fun nv iv wr => ∃ k : Nat, k ≤ Cs.length ∧ iv = .int .i64 (k : Int) ∧ nv = .int .i64 (cntT (pMir (a : Int)) R k : Nat) ∧ Below w2.heap.size w2 wr) (fun _ iv _ => Cs.length - (intOf iv).toNat)
    case atStart => exact ⟨0, Nat.zero_le _, rfl, by simp [cntT], Below.refl _ _⟩
    case round =>
      obtain ⟨k, hk, rfl, rfl, hbr⟩ := hrel
      by_cases hlt : k < Cs.length
      · obtain ⟨x, hx⟩ : ∃ x, Cs[k]? = some x := ⟨_, List.getElem?_eq_getElem hlt⟩
        have hxm : x ∈ Cs := List.mem_of_getElem? hx
        obtain ⟨g9, rfl⟩ := own_form HCL.out.own (show 0 < Cs.length by omega)
        have hg9 := (own_lt HCL.out.own).2
        obtain ⟨d0, d1, d2⟩ := HCL.out.at hx
        have c0 := (hbr.cell (p := ⟨g9, k * 3, none⟩) hg9).trans d0
        have c1 := (hbr.cell (p := ⟨g9, k * 3 + 1, none⟩) hg9).trans d1
        have c2 := (hbr.cell (p := ⟨g9, k * 3 + 2, none⟩) hg9).trans d2
        have hxs := HCL.out.sq x hxm
        have hxc := own_cap hxs
        have hxq : SqsAt wr wr.heap.size x.2.1 x.1 := ((sqs_of_own hxs).below hbr).mono hbr.size
        have hRk : R[k]? = some x.1 := by rw [← HM.out, List.getElem?_map, hx]; rfl
        have hG := HG.out x.1 (List.mem_of_getElem? hRk)
        have hn := hG.2.2.1
        have HR := Lib.hid hRk
        have k0 : (0 : Int) ≤ (k : Int) := by omega
        have k1 : (k : Int) < (Cs.length : Int) := by omega
        have hct : (cntT (pMir (a : Int)) R k : Int) ≤ 65536 := by have := cntT_le (pMir (a : Int)) R k; have := HF.out; omega
        have hct0 : (0 : Int) ≤ (cntT (pMir (a : Int)) R k : Int) := by omega
        obtain ⟨W1, hW1⟩ : ∃ W1, W1 = wr.alloc (.cells #[.int .i64 a, .int .i64 b, .slice x.2.1 x.1.length x.2.2] 28) := ⟨_, rfl⟩
        have hb1 : Below wr.heap.size wr W1 := by rw [hW1]; exact (Below.refl _ _).alloc (Nat.le_refl _) _
        have f0 : W1.cell? ⟨wr.heap.size, 0, none⟩ = some (.int .i64 a) := by rw [hW1]; simp
        have f1 : W1.cell? ⟨wr.heap.size, 1, none⟩ = some (.int .i64 b) := by rw [hW1]; simp
        have f2 : W1.cell? ⟨wr.heap.size, 2, none⟩ = some (.slice x.2.1 x.1.length x.2.2) := by rw [hW1]; simp
        have hz1 : wr.heap.size < W1.heap.size := by rw [hW1]; simp
        have hxq1 : SqsAt W1 W1.heap.size x.2.1 x.1 := (hxq.below hb1).mono hb1.size
        have hB1 : Below w2.heap.size w2 W1 := hbr.trans (hb1.mono hbr.size)
        have HX := Lib.hid hx
        clear d0 d1 d2 hRk hx hxs hxq
        go_wp2_with fail
        rw [← hW1]
        clear hW1
        obtain ⟨M, hMM⟩ : ∃ M, srt (mirL a x.1) = M := ⟨_, rfl⟩
        have hGM : Good a b M := by rw [← hMM]; exact good_mir hG
        have hS1 : ∀ s ∈ x.1, SmS s := sm_good hG
        have hS2 : ∀ s ∈ M, SmS s := sm_good hGM
        have hn2 := hGM.2.2.1.2
        have hbd := hG.1
        have hbd2 := hG.2.1
        have C1 := fun w' (h : SqsAt w' w'.heap.size x.2.1 x.1) => mirM_any a b x.2.1 x.1.length x.2.2 x.1 w' rfl hxc h hG
        simp only [hMM] at C1
        have HC1 := Lib.hid C1
        have HP0 : Hid ((pMir (a : Int)) x.1 = dc (x.1 = M)) := Lib.hid (by unfold pMir; rw [hMM])
        clear hMM C1 hG hGM
        have HS1 := Lib.hid hS1
        have HS2 := Lib.hid hS2
        clear hS1 hS2
        have C2 := fun (w' : World) (h : SqsAt w' w'.heap.size x.2.1 x.1) => cuText_any a b x.2.1 x.1.length x.2.2 x.1 w' rfl (by omega) (by omega) (by omega) h HS1.out
        have C3 := fun (w' : World) (A8 : Option Addr) (c8 : Nat) (h : SqsAt w' w'.heap.size A8 M) => cuText_any a b A8 M.length c8 M w' rfl (by omega) (by omega) (by omega) h HS2.out
        have HE := Lib.hid (tx_eq a b HS1.out HS2.out)
        obtain ⟨t1, ht1⟩ : ∃ t1, bas (txC (a : Int).toNat (b : Int).toNat x.1) = t1 := ⟨_, rfl⟩
        obtain ⟨t2, ht2⟩ : ∃ t2, bas (txC (a : Int).toNat (b : Int).toNat M) = t2 := ⟨_, rfl⟩
        simp only [ht1] at C2
        simp only [ht2] at C3
        have HC2 := Lib.hid C2
        have HC3 := Lib.hid C3
        have HQ : Hid ((t2.toList == t1.toList) = dc (x.1 = M)) := Lib.hid (by rw [← ht1, ← ht2]; exact HE.out)
        clear ht1 ht2 C2 C3 HE
        by_cases h0 : x.1 = M
        · have e1 : (t2.toList == t1.toList) = true := HQ.out.trans (dc_true h0)
          have hp : (pMir (a : Int)) x.1 = true := HP0.out.trans (dc_true h0)
          have HP := Lib.hid hp
          clear hp h0
          go_region_held3 (fun w' => Below W1.heap.size W1 w' ∧ W1.heap.size ≤ w'.heap.size ∧ ∀ b o, b < W1.heap.size → w'.cell? ⟨b, o, none⟩ = W1.cell? ⟨b, o, none⟩)
            (first | exact keepS (by assumption) (by assumption) | exact ⟨(Below.refl _ _).drew, Nat.le_refl _, fun _ _ _ => rfl⟩)
            (first
              | (go_at_call 48; (with_reducible refine (HC1.out _ (sqsS hxq1 (by assumption))).mono ?_); rintro e w8 ⟨A8, c8, rfl, ho8, hb8⟩)
              | (go_at_call 73; (with_reducible refine (HC2.out _ (sqsS hxq1 (by assumption))).mono ?_); rintro e w9 ⟨rfl, hb9⟩)
              | (go_at_call 73; (with_reducible refine (HC3.out _ _ _ (by assumption)).mono ?_); rintro e w9 ⟨rfl, hb9⟩))
          have hbe : Below w2.heap.size w2 w9 := hB1.trans ((belowS (B := W1.heap.size) (wp := w9) (by assumption)).mono hB1.size)
          have HBE := Lib.hid hbe
          clear hbe hxq1 f0 f1 f2
          go_wp2_with fail
          go_roundw
          case rel => exact ⟨k + 1, by omega, by go_num, by rw [cntT_yes HR.out HP.out]; go_num, HBE.out⟩
          case measure => simp [intOf]; omega
        · have e1 : (t2.toList == t1.toList) = false := HQ.out.trans (dc_false h0)
          have hp : (pMir (a : Int)) x.1 = false := HP0.out.trans (dc_false h0)
          have HP := Lib.hid hp
          clear hp h0
          go_region_held3 (fun w' => Below W1.heap.size W1 w' ∧ W1.heap.size ≤ w'.heap.size ∧ ∀ b o, b < W1.heap.size → w'.cell? ⟨b, o, none⟩ = W1.cell? ⟨b, o, none⟩)
            (first | exact keepS (by assumption) (by assumption) | exact ⟨(Below.refl _ _).drew, Nat.le_refl _, fun _ _ _ => rfl⟩)
            (first
              | (go_at_call 48; (with_reducible refine (HC1.out _ (sqsS hxq1 (by assumption))).mono ?_); rintro e w8 ⟨A8, c8, rfl, ho8, hb8⟩)
              | (go_at_call 73; (with_reducible refine (HC2.out _ (sqsS hxq1 (by assumption))).mono ?_); rintro e w9 ⟨rfl, hb9⟩)
              | (go_at_call 73; (with_reducible refine (HC3.out _ _ _ (by assumption)).mono ?_); rintro e w9 ⟨rfl, hb9⟩))
          have hbe : Below w2.heap.size w2 w9 := hB1.trans ((belowS (B := W1.heap.size) (wp := w9) (by assumption)).mono hB1.size)
          have HBE := Lib.hid hbe
          clear hbe hxq1 f0 f1 f2
          go_wp2_with fail
          go_roundw
          case rel => exact ⟨k + 1, by omega, by go_num, by rw [cntT_no HR.out HP.out], HBE.out⟩
          case measure => simp [intOf]; omega
      · obtain rfl : k = Cs.length := by omega
        have e : (cntT (pMir (a : Int)) R Cs.length : Int) = ((R.filter (pMir (a : Int))).length : Nat) := by rw [HCC.out, cntT_all]
        have HE := Lib.hid e
        clear e
        go_wp2_with fail
        go_ret2
        exact ⟨by rw [HE.out]; rfl, HB2.out.trans (hbr.mono HB2.out.size)⟩
end Go.Proofs.Ytdpbjmdgjhleeaa
