/- The program's reading of a cut's text. -/
import Derived.Test.YtbkfenhiaedlgaaDoorPc
import Derived.Test.YtbkfenhiaedlgaaDoorPn
set_option linter.all false
namespace Go.Proofs.YtbkfenhiaedlgaaDoor
open Go.RowKit

theorem head_nums {W H : Int} (hW : 0 ≤ W ∧ W < 9223372036854775808) (hH : 0 ≤ H ∧ H < 9223372036854775808) : Nums 120 2 (dec W.toNat ++ 120 :: dec H.toNat) [W.toNat, H.toNat] :=
  ⟨rfl, by simp [Lib.join, List.intercalate], by intro r hr; simp at hr; rcases hr with rfl | rfl <;> omega⟩
theorem sqt_nums {s : Sq} (h : (0 ≤ s.x ∧ s.x < 9223372036854775808) ∧ (0 ≤ s.y ∧ s.y < 9223372036854775808) ∧ (0 ≤ s.d ∧ s.d < 9223372036854775808)) : Nums 44 3 (sqt s) [s.x.toNat, s.y.toNat, s.d.toNat] :=
  ⟨rfl, by simp [Lib.join, List.intercalate, sqt], by intro r hr; simp at hr; rcases hr with rfl | rfl | rfl <;> omega⟩
def Nn (s : Sq) : Prop := (0 ≤ s.x ∧ s.x < 9223372036854775808) ∧ (0 ≤ s.y ∧ s.y < 9223372036854775808) ∧ (0 ≤ s.d ∧ s.d < 9223372036854775808)
theorem nums_sqt {t : List UInt8} {x y d : Nat} (h : Nums 44 3 t [x, y, d]) : t = sqt ⟨x, y, d⟩ ∧ Nn ⟨x, y, d⟩ := by
  have hx := h.2.2 x (by simp)
  have hy := h.2.2 y (by simp)
  have hd := h.2.2 d (by simp)
  refine ⟨by rw [h.2.1]; simp [Lib.join, List.intercalate, sqt], ⟨by show (0 : Int) ≤ (x : Int); omega, by show (x : Int) < _; omega⟩, ⟨by show (0 : Int) ≤ (y : Int); omega, by show (y : Int) < _; omega⟩, ⟨by show (0 : Int) ≤ (d : Int); omega, by show (d : Int) < _; omega⟩⟩
theorem nums_head {t : List UInt8} {x y : Nat} (h : Nums 120 2 t [x, y]) : t = dec x ++ 120 :: dec y := by
  rw [h.2.1]; simp [Lib.join, List.intercalate]
theorem sqt_inj {s q : Sq} (hs : Nn s) (hq : Nn q) (h : sqt s = sqt q) : s = q := by
  have h1 := sqt_nums hs
  rw [h] at h1
  have e := nums_uniq (b := 44) (by decide) (by omega) h1 (sqt_nums hq)
  obtain ⟨a1, a2, a3⟩ := hs
  obtain ⟨b1, b2, b3⟩ := hq
  have e1 := congrArg (fun l => l[0]?) e
  have e2 := congrArg (fun l => l[1]?) e
  have e3 := congrArg (fun l => l[2]?) e
  simp at e1 e2 e3
  cases s; cases q
  simp at *
  omega
theorem sqts_inj : ∀ {L M : List Sq}, (∀ s ∈ L, Nn s) → (∀ s ∈ M, Nn s) → L.map sqt = M.map sqt → L = M
  | [], [], _, _, _ => rfl
  | [], _ :: _, _, _, h => by simp at h
  | _ :: _, [], _, _, h => by simp at h
  | s :: L, q :: M, hL, hM, h => by
    simp only [List.map_cons, List.cons.injEq] at h
    rw [sqt_inj (hL s (by simp)) (hM q (by simp)) h.1, sqts_inj (fun r hr => hL r (List.mem_cons_of_mem _ hr)) (fun r hr => hM r (List.mem_cons_of_mem _ hr)) h.2]
theorem good_nn {W H : Int} {L : List Sq} (hG : Good W H L) : ∀ s ∈ L, Nn s := fun s hs => by
  obtain ⟨h1, h2, h3⟩ := good_sm hG s hs
  exact ⟨by omega, by omega, by omega⟩
theorem good_fields {W H : Int} {L : List Sq} (hG : Good W H L) : Lib.splitN (txC W.toNat H.toNat L) [59] 32 = (dec W.toNat ++ 120 :: dec H.toNat) :: L.map sqt := by
  have e : txC W.toNat H.toNat L = Lib.join ((dec W.toNat ++ 120 :: dec H.toNat) :: L.map sqt) [59] := by rw [join_ct]; rfl
  rw [e]
  have hn : L.length ≤ 30 := hG.2.2.1.2
  refine splitN_of 59 (by simp) ?_ (by simp; omega)
  intro x hx
  rcases List.mem_cons.1 hx with rfl | hx
  · exact head_no _ _
  · obtain ⟨s, _, rfl⟩ := List.mem_map.1 hx; exact sqt_no s
theorem str_bas120 : (⟨#[120]⟩ : ByteArray) = bas [120] := rfl
theorem str_bas59 : (⟨#[59]⟩ : ByteArray) = bas [59] := rfl
theorem str_bas44 : (⟨#[44]⟩ : ByteArray) = bas [44] := rfl
/-- What ParseCut returns: the good cut with this text, or nothing. -/
def RetPx (w : World) (l : List UInt8) (e : Ending) (w' : World) : Prop :=
  Below w.heap.size w w' ∧ ((∃ W H A c, ∃ L : List Sq, e = .returned (.tuple #[.agg #[.int .i64 W, .int .i64 H, .slice A L.length c], .bool true]) ∧ w'.ownsRow w.heap.size 85 3 (.slice A L.length c) L.length (flat L) ∧ Good W H L ∧ txC W.toNat H.toNat L = l) ∨
    ((∀ W H L, Good W H L → txC W.toNat H.toNat L ≠ l) ∧ e = .returned (.tuple #[.agg #[.int .i64 0, .int .i64 0, .slice none 0 0], .bool false])))
set_option maxRecDepth 100000 in
/-- A cut in its result's cell, and a bool: the program. -/
theorem ret_cutI {tmps : Array Value} {w : World} {B : Nat} {W H : Int} {A : Option Addr} {n c : Nat} {b : Bool} (K : Bx B w W H A n c) (hp : tmps.getD 2 undef = .pointer (some ⟨B, 0, none⟩)) (hu : tmps.getD 3 undef = .bool b) :
    (results Tryd.f17 tmps).run Tryd.prog w = .ok (.tuple #[.agg #[.int .i64 W, .int .i64 H, .slice A n c], .bool b]) w := by
  have c0 := K.c0
  have c1 := K.c1
  have c2 := K.c2
  rw [results_cell_tmp rfl, hp, hu]
  simp [go_sem, c0, c1, c2]
set_option maxRecDepth 100000 in
set_option maxHeartbeats 8000000 in
theorem implPc_any (l : List UInt8) (hl : l.length ≤ 1048576) (w : World) (hS : StrOk w) : Calls Tryd.prog 17 #[.string (bas l)] w (RetPx w l) := by
  have B0 : Below w.heap.size w (w.alloc (.cells #[.int .i64 0, .int .i64 0, .slice none 0 0] 30)) := (Below.refl _ _).alloc (Nat.le_refl _) _
  have K0 := Bx.start w 0 0 none 0 0 30
  have C1 := splitN_any l 59 32 hl (by omega) (w.alloc (.cells #[.int .i64 0, .int .i64 0, .slice none 0 0] 30)) (hS.below B0).max
  have HGF := Lib.hid (fun W H L (hG : Good W H L) (e : txC W.toNat H.toNat L = l) => by have h := good_fields hG; rw [e] at h; exact h)
  have HPL := piece_len 59 (xs := Lib.splitN l [59] 32)
  have HJ := splitN_join 59 32 l
  have hFL := splitN_len 59 (n := 32) (by omega) l
  obtain ⟨hh, T, hR⟩ : ∃ hh T, Lib.splitN l [59] 32 = hh :: T := by
    cases h : Lib.splitN l [59] 32 with
    | nil => exact absurd h (splitN_ne _ _ _)
    | cons x t => exact ⟨x, t, rfl⟩
  rw [hR] at C1 HGF HPL HJ hFL
  rw [HJ] at HPL
  have hTl : T.length ≤ 31 := by simp at hFL; omega
  obtain ⟨S, hSS⟩ : ∃ S, bas l = S := ⟨_, rfl⟩
  rw [hSS, ← str_bas59, show ((32 : Nat) : Int) = (32 : Int) from rfl] at C1
  rw [hSS]
  have HC1 := Lib.hid C1
  have HJ := Lib.hid HJ
  have CH := Lib.hid (fun V => pn_any hh 120 (by decide) 2 (by omega) (by have := HPL hh (by simp); omega) V)
  have HPL := Lib.hid HPL
  have HR := Lib.hid hR
  clear hR hSS C1 hFL
  go_enter Tryd.func17, Tryd.ntmps17
  go_wp2_with fail
  (with_reducible refine HC1.out.mono ?_)
  rintro e w2 ⟨c, rfl, ho, hb2⟩
  obtain ⟨g, hg⟩ : ∃ g, g = (w.alloc (.cells #[.int .i64 0, .int .i64 0, .slice none 0 0] 30)).heap.size := ⟨_, rfl⟩
  rw [← hg] at ho ⊢
  have hcap := own_cap ho
  have HG := Lib.hid hg
  have hc0 := txs_at ho (j := 0) (t := hh) rfl
  have K2 := K0.next hb2
  have F2 : ∀ o, w2.frozen? ⟨w.heap.size, o, none⟩ = false := fun o => (hb2.frozen (p := ⟨w.heap.size, o, none⟩) K0.lt).trans (by simp)
  have B2 := B0.trans (hb2.mono B0.size)
  simp only [List.length_cons] at ho hcap ⊢
  have hlt := own_lt ho
  have hS2 := hS.below B2
  clear HC1 K0 B0 hb2 hg
  have CH := CH.out w2 hS2
  rw [← str_bas120, show ((2 : Nat) : Int) = (2 : Int) from rfl] at CH
  have CH := Lib.hid CH
  go_wp2_with fail
  (with_reducible refine CH.out.mono ?_)
  rintro e w3 ⟨hb3, hv⟩
  have B3 := B2.trans (hb3.mono B2.size)
  have K3 := K2.next hb3
  have hlt2 := K2.lt
  have F3 : ∀ o, w3.frozen? ⟨w.heap.size, o, none⟩ = false := fun o => (hb3.frozen (p := ⟨w.heap.size, o, none⟩) K2.lt).trans (F2 o)
  have ho' := own_keep ho hb3
  have hS3 := hS2.below hb3
  rcases hv with ⟨R, g3, hN, rfl, ho3⟩ | ⟨hN, rfl⟩
  · obtain ⟨x, y, rfl⟩ : ∃ x y, R = [x, y] := by
      match R, hN.1 with
      | [x, y], _ => exact ⟨x, y, rfl⟩
    have d0 : w3.cell? ⟨g3, 0, none⟩ = some (.int .i64 x) := by rw [ho3.cellAt 0 (by omega)]; rfl
    have d1 : w3.cell? ⟨g3, 1, none⟩ = some (.int .i64 y) := by rw [ho3.cellAt 1 (by omega)]; rfl
    have hlt3 := own_lt ho3
    have hhd := nums_head hN
    have hx63 := hN.2.2 x (by simp)
    have hy63 := hN.2.2 y (by simp)
    have HHD := Lib.hid hhd
    have HO := Lib.hid ho'
    obtain ⟨kl, k0, k1, k2⟩ := id K3
    clear CH ho ho3 hb3 K2 B2 F2 hc0 hN hhd ho'
    go_wp2_with fail
    have INV : ∀ V, Below w3.heap.size w3 V → V.cell? ⟨g3, 0, none⟩ = some (.int .i64 x) ∧ V.cell? ⟨g3, 1, none⟩ = some (.int .i64 y) := fun V hb => ⟨(hb.cell (p := ⟨g3, 0, none⟩) hlt3.2).trans d0, (hb.cell (p := ⟨g3, 1, none⟩) hlt3.2).trans d1⟩
    have hd0 : Below w3.heap.size w3 w3.drew := (Below.refl _ _).drew
    have hda : ∀ o, Below w3.heap.size w3 (w3.alloc o).drew := fun o => ((Below.refl _ _).alloc (Nat.le_refl _) o).drew
    refine wp_region_top 11 (fun w' => w'.cell? ⟨g3, 0, none⟩ = some (.int .i64 x) ∧ w'.cell? ⟨g3, 1, none⟩ = some (.int .i64 y)) (by kernel_rfl) (INV _ hd0) (fun hHeld => ?_)
    refine wpTop.take 0 (v := ?_) rfl (by kernel_rfl) (by kernel_rfl) (by kernel_rfl) (by kernel_rfl) (fun _ _ _ h => h) (Or.inl ⟨by rfl, ?_⟩) (by assumption) ?_
    rotate_left
    · intro w hSw; (try dsimp only at hSw); go_simp; try (with_reducible rfl)
    try simp only [Act.put, List.getElem_toArray, List.getElem_cons_zero, List.getElem_cons_succ, List.setIfInBounds_toArray, List.set_cons_zero, List.set_cons_succ]
    refine wpTop.take 1 (v := ?_) rfl (by kernel_rfl) (by kernel_rfl) (by kernel_rfl) (by kernel_rfl) (fun _ _ _ h => h) (Or.inl ⟨by rfl, ?_⟩) (by assumption) ?_
    rotate_left
    · intro w hSw; (try dsimp only at hSw); go_simp; try (with_reducible rfl)
    try simp only [Act.put, List.getElem_toArray, List.getElem_cons_zero, List.getElem_cons_succ, List.setIfInBounds_toArray, List.set_cons_zero, List.set_cons_succ]
    refine wpTop.take 2 (v := ?_) rfl (by kernel_rfl) (by kernel_rfl) (by kernel_rfl) (by kernel_rfl) (fun _ _ _ h => h) (Or.inl ⟨by rfl, ?_⟩) (by assumption) ?_
    rotate_left
    · intro w hSw; (try dsimp only at hSw); go_simp; try (with_reducible rfl)
    try simp only [Act.put, List.getElem_toArray, List.getElem_cons_zero, List.getElem_cons_succ, List.setIfInBounds_toArray, List.set_cons_zero, List.set_cons_succ]
    refine wpTop.take 3 (v := ?_) rfl (by kernel_rfl) (by kernel_rfl) (by kernel_rfl) (by kernel_rfl) (fun _ _ _ h => h) (Or.inl ⟨by rfl, ?_⟩) (by assumption) ?_
    rotate_left
    · intro w hSw; (try dsimp only at hSw); go_simp; try (with_reducible rfl)
    try simp only [Act.put, List.getElem_toArray, List.getElem_cons_zero, List.getElem_cons_succ, List.setIfInBounds_toArray, List.set_cons_zero, List.set_cons_succ]
    refine wpTop.take 4 (v := ?_) rfl (by kernel_rfl) (by kernel_rfl) (by kernel_rfl) (by kernel_rfl) (fun _ _ _ h => h) (Or.inl ⟨by rfl, ?_⟩) (by assumption) ?_
    rotate_left
    · intro w hSw; (try dsimp only at hSw); go_simp; try (with_reducible rfl)
    try simp only [Act.put, List.getElem_toArray, List.getElem_cons_zero, List.getElem_cons_succ, List.setIfInBounds_toArray, List.set_cons_zero, List.set_cons_succ]
    refine wpTop.take 5 (v := ?_) rfl (by kernel_rfl) (by kernel_rfl) (by kernel_rfl) (by kernel_rfl) (fun _ _ _ h => h) (Or.inl ⟨by rfl, ?_⟩) (by assumption) ?_
    rotate_left
    · intro w hSw; (try dsimp only at hSw); go_simp; try (with_reducible rfl)
    try simp only [Act.put, List.getElem_toArray, List.getElem_cons_zero, List.getElem_cons_succ, List.setIfInBounds_toArray, List.set_cons_zero, List.set_cons_succ]
    refine wpTop.take 6 (v := ?_) rfl (by kernel_rfl) (by kernel_rfl) (by kernel_rfl) (by kernel_rfl) (fun _ _ _ h => h) (Or.inl ⟨by rfl, ?_⟩) (by assumption) ?_
    rotate_left
    · intro w hSw; (try dsimp only at hSw); go_simp; try (with_reducible rfl)
    try simp only [Act.put, List.getElem_toArray, List.getElem_cons_zero, List.getElem_cons_succ, List.setIfInBounds_toArray, List.set_cons_zero, List.set_cons_succ]
    refine wpTop.one 7 rfl (by kernel_rfl) (fun K hK => ?_)
    go_simp
    refine hK.out _ _ (fun _ => INV _ (by first | exact hd0 | exact hd0.alloc hd0.size _ | exact hda _ | exact below_set3 (hd0.alloc hd0.size _) _ _ _ | exact below_set3 (hda _) _ _ _)) (fun hH => ?_)
    clear hK K
    have hHeld := hH (by decide)
    clear hH
    try simp only [Act.put, List.getElem_toArray, List.getElem_cons_zero, List.getElem_cons_succ, List.setIfInBounds_toArray, List.set_cons_zero, List.set_cons_succ]
    refine wpTop.one 8 rfl (by kernel_rfl) (fun K hK => ?_)
    go_simp
    refine hK.out _ _ (fun _ => INV _ (by first | exact hd0 | exact hd0.alloc hd0.size _ | exact hda _ | exact below_set3 (hd0.alloc hd0.size _) _ _ _ | exact below_set3 (hda _) _ _ _)) (fun hH => ?_)
    clear hK K
    have hHeld := hH (by decide)
    clear hH
    try simp only [Act.put, List.getElem_toArray, List.getElem_cons_zero, List.getElem_cons_succ, List.setIfInBounds_toArray, List.set_cons_zero, List.set_cons_succ]
    refine wpTop.all (by kernel_rfl) ?_ _
    go_upto_region 6 with fail
    have hda : ∀ o, Below w3.heap.size w3 (w3.alloc o).drew := fun o => ((Below.refl _ _).alloc (Nat.le_refl _) o).drew
    have hbA : Below w3.heap.size w3 (w3.alloc (.cells #[.int .i64 x, .int .i64 y, .slice none 0 0] 30)).drew := hda _
    have PM0 : PM w.heap.size w3.heap.size x y g (T.length + 1) c (hh :: T) none 0 [] (w3.alloc (.cells #[.int .i64 x, .int .i64 y, .slice none 0 0] 30)).drew :=
      ⟨K3.next hbA, fun o => (hbA.frozen (p := ⟨w.heap.size, o, none⟩) K3.lt).trans (F3 o), K3.lt, ⟨by simp, by simp, by simp, by simp⟩, fun o => by simp, own_keep (own_base HO.out (by rw [HG.out]; simp)) hbA, by have := own_lt HO.out; omega, World.ownsRow_nil _ _ _ _⟩
    have BB := B3.trans (hbA.mono B3.size)
    obtain ⟨X, hX⟩ : ∃ X : Int, X = x := ⟨_, rfl⟩
    obtain ⟨Y, hY⟩ : ∃ Y : Int, Y = y := ⟨_, rfl⟩
    obtain ⟨g6, hg6⟩ : ∃ g6, g6 = w3.heap.size := ⟨_, rfl⟩
    obtain ⟨w5, hw5⟩ : ∃ w5, w5 = (w3.alloc (.cells #[.int .i64 x, .int .i64 y, .slice none 0 0] 30)).drew := ⟨_, rfl⟩
    rw [← hw5] at PM0 BB ⊢
    rw [← hg6, ← hX, ← hY] at PM0
    rw [← hg6]
    have HX := Lib.hid hX
    have HY := Lib.hid hY
    have hlg := PM0.lt
    clear hbA hda hX hY hg6 hw5 B3 K3 F3 kl k0 k1 k2 HO d0 d1 hlt2 hlt3 hd0 INV
    go_cut [32, 33, 34] (fun s1 s2 s3 wx => ∃ q, s1 = .slice q T.length (c - 1) ∧ (0 < T.length → q = some ⟨g, 1, none⟩) ∧ s2 = .int .i64 T.length ∧ s3 = .int .i64 0 ∧ wx = w5)
    case first =>
      go_wp2_with fail
      · subst h
        go_meet
        exact ⟨_, rfl, fun h => (by first | rfl | (exfalso; omega)), rfl, rfl, rfl⟩
      · go_meet
        exact ⟨_, rfl, fun h => (by first | rfl | (exfalso; omega)), rfl, rfl, rfl⟩
    obtain ⟨q, rfl, hq, rfl, rfl, rfl⟩ := hcut
    go_wp2_with fail
    go_loopw [34] (fun i wr => ∃ k A6 c6, ∃ L : List Sq, k ≤ T.length ∧ i = .int .i64 k ∧ T.take k = L.map sqt ∧ (∀ s ∈ L, Nn s) ∧ PM w.heap.size g6 X Y g (T.length + 1) c (hh :: T) A6 c6 L wr ∧ Below w.heap.size w wr) (fun i _ => T.length - (intOf i).toNat)
    case atStart => exact ⟨0, none, 0, [], Nat.zero_le _, rfl, rfl, by simp, PM0, BB⟩
    case round =>
      obtain ⟨k, A6, c6, L, hk, rfl, hsq, hnn, hP, hbr⟩ := hrel
      clear PM0 BB
      have hSr := hS.below hbr
      have hLk : L.length = k := by have := congrArg List.length hsq; rw [List.length_take, List.length_map] at this; omega
      by_cases hlt : k < T.length
      · obtain ⟨t, ht⟩ : ∃ t, T[k]? = some t := ⟨_, List.getElem?_eq_getElem hlt⟩
        have e0 := txs_at hP.parts (j := k + 1) (t := t) (by simpa using ht)
        have e0' : wr.cell? ⟨g, 1 + k, none⟩ = some (.string (bas t)) := by rw [Nat.add_comm]; exact e0
        have CT := pn_any t 44 (by decide) 3 (by omega) (by have := HPL.out t (List.mem_cons_of_mem _ (List.mem_of_getElem? ht)); omega) wr hSr
        rw [← str_bas44, show ((3 : Nat) : Int) = (3 : Int) from rfl] at CT
        have CT := Lib.hid CT
        have i1 : (0 : Int) ≤ (k : Int) := by omega
        have i2 : (k : Int) < (T.length : Int) := by omega
        obtain rfl := hq (by omega)
        have HSQ := Lib.hid hsq
        have HT := Lib.hid ht
        have HNN := Lib.hid hnn
        have HLK := Lib.hid hLk
        have hLT : L.length < 31 := by omega
        clear hsq ht hnn hLk
        go_wp2_with fail
        all_goals (
          (with_reducible refine CT.out.mono ?_)
          rintro e w4 ⟨hb4, hv⟩
          have hP4 := hP.keep hb4
          have hb44 := hbr.trans (hb4.mono hbr.size)
          rcases hv with ⟨R, g4, hN, rfl, ho4⟩ | ⟨hN, rfl⟩
          · obtain ⟨a3, b3, c3, rfl⟩ : ∃ a3 b3 c3, R = [a3, b3, c3] := by
              match R, hN.1 with
              | [a3, b3, c3], _ => exact ⟨a3, b3, c3, rfl⟩
            have hk1 : L.length + 1 ≤ maxLen := by unfold maxLen; omega
            have hk2 : (L.length + 1) * 24 ≤ 140737488355328 := by omega
            have y0 : w4.cell? ⟨g4, 0, none⟩ = some (.int .i64 a3) := by rw [ho4.cellAt 0 (by omega)]; rfl
            have y1 : w4.cell? ⟨g4, 1, none⟩ = some (.int .i64 b3) := by rw [ho4.cellAt 1 (by omega)]; rfl
            have y2 : w4.cell? ⟨g4, 2, none⟩ = some (.int .i64 c3) := by rw [ho4.cellAt 2 (by omega)]; rfl
            have hlt4 := own_lt ho4
            have HS3 := Lib.hid (nums_sqt hN)
            obtain ⟨i0, hi, hz0, hz1, hz2⟩ := info_parts infoSq
            have HO4 := Lib.hid ho4
            have HSL := Lib.hid (fun k hk => (hP.sq.lt k hk).2)
            clear CT ho4 hb4 hP hN
            go_wp2_with fail
            all_goals (
              have HP4 := Lib.hid hP4
              have INV : ∀ V, Below w4.heap.size w4 V → V.cell? ⟨g6, 2, none⟩ = some (.slice A6 L.length c6) ∧ V.cell? ⟨g4, 0, none⟩ = some (.int .i64 a3) ∧ V.cell? ⟨g4, 1, none⟩ = some (.int .i64 b3) ∧ V.cell? ⟨g4, 2, none⟩ = some (.int .i64 c3) := fun V hb => ⟨(HP4.out.keep hb).box.c2, (hb.cell (p := ⟨g4, 0, none⟩) hlt4.2).trans y0, (hb.cell (p := ⟨g4, 1, none⟩) hlt4.2).trans y1, (hb.cell (p := ⟨g4, 2, none⟩) hlt4.2).trans y2⟩
              have hd4 : Below w4.heap.size w4 w4.drew := (Below.refl _ _).drew
              refine wp_region_top 14 (fun w' => w'.cell? ⟨g6, 2, none⟩ = some (.slice A6 L.length c6) ∧ w'.cell? ⟨g4, 0, none⟩ = some (.int .i64 a3) ∧ w'.cell? ⟨g4, 1, none⟩ = some (.int .i64 b3) ∧ w'.cell? ⟨g4, 2, none⟩ = some (.int .i64 c3)) (by kernel_rfl) (INV _ hd4) (fun hHeld => ?_)
              refine wpTop.take 0 (v := ?_) rfl (by kernel_rfl) (by kernel_rfl) (by kernel_rfl) (by kernel_rfl) (fun _ _ _ h => h) (Or.inl ⟨by rfl, ?_⟩) (by assumption) ?_
              rotate_left
              · intro w hSw; (try dsimp only at hSw); go_simp; try (with_reducible rfl)
              try simp only [Act.put, List.getElem_toArray, List.getElem_cons_zero, List.getElem_cons_succ, List.setIfInBounds_toArray, List.set_cons_zero, List.set_cons_succ]
              refine wpTop.take 1 (v := ?_) rfl (by kernel_rfl) (by kernel_rfl) (by kernel_rfl) (by kernel_rfl) (fun _ _ _ h => h) (Or.inl ⟨by rfl, ?_⟩) (by assumption) ?_
              rotate_left
              · intro w hSw; (try dsimp only at hSw); go_simp; try (with_reducible rfl)
              try simp only [Act.put, List.getElem_toArray, List.getElem_cons_zero, List.getElem_cons_succ, List.setIfInBounds_toArray, List.set_cons_zero, List.set_cons_succ]
              refine wpTop.take 2 (v := ?_) rfl (by kernel_rfl) (by kernel_rfl) (by kernel_rfl) (by kernel_rfl) (fun _ _ _ h => h) (Or.inl ⟨by rfl, ?_⟩) (by assumption) ?_
              rotate_left
              · intro w hSw; (try dsimp only at hSw); go_simp; try (with_reducible rfl)
              try simp only [Act.put, List.getElem_toArray, List.getElem_cons_zero, List.getElem_cons_succ, List.setIfInBounds_toArray, List.set_cons_zero, List.set_cons_succ]
              refine wpTop.take 3 (v := ?_) rfl (by kernel_rfl) (by kernel_rfl) (by kernel_rfl) (by kernel_rfl) (fun _ _ _ h => h) (Or.inl ⟨by rfl, ?_⟩) (by assumption) ?_
              rotate_left
              · intro w hSw; (try dsimp only at hSw); go_simp; try (with_reducible rfl)
              try simp only [Act.put, List.getElem_toArray, List.getElem_cons_zero, List.getElem_cons_succ, List.setIfInBounds_toArray, List.set_cons_zero, List.set_cons_succ]
              refine wpTop.take 4 (v := ?_) rfl (by kernel_rfl) (by kernel_rfl) (by kernel_rfl) (by kernel_rfl) (fun _ _ _ h => h) (Or.inl ⟨by rfl, ?_⟩) (by assumption) ?_
              rotate_left
              · intro w hSw; (try dsimp only at hSw); go_simp; try (with_reducible rfl)
              try simp only [Act.put, List.getElem_toArray, List.getElem_cons_zero, List.getElem_cons_succ, List.setIfInBounds_toArray, List.set_cons_zero, List.set_cons_succ]
              refine wpTop.take 5 (v := ?_) rfl (by kernel_rfl) (by kernel_rfl) (by kernel_rfl) (by kernel_rfl) (fun _ _ _ h => h) (Or.inl ⟨by rfl, ?_⟩) (by assumption) ?_
              rotate_left
              · intro w hSw; (try dsimp only at hSw); go_simp; try (with_reducible rfl)
              try simp only [Act.put, List.getElem_toArray, List.getElem_cons_zero, List.getElem_cons_succ, List.setIfInBounds_toArray, List.set_cons_zero, List.set_cons_succ]
              refine wpTop.take 6 (v := ?_) rfl (by kernel_rfl) (by kernel_rfl) (by kernel_rfl) (by kernel_rfl) (fun _ _ _ h => h) (Or.inl ⟨by rfl, ?_⟩) (by assumption) ?_
              rotate_left
              · intro w hSw; (try dsimp only at hSw); go_simp; try (with_reducible rfl)
              try simp only [Act.put, List.getElem_toArray, List.getElem_cons_zero, List.getElem_cons_succ, List.setIfInBounds_toArray, List.set_cons_zero, List.set_cons_succ]
              refine wpTop.take 7 (v := ?_) rfl (by kernel_rfl) (by kernel_rfl) (by kernel_rfl) (by kernel_rfl) (fun _ _ _ h => h) (Or.inl ⟨by rfl, ?_⟩) (by assumption) ?_
              rotate_left
              · intro w hSw; (try dsimp only at hSw); go_simp; try (with_reducible rfl)
              try simp only [Act.put, List.getElem_toArray, List.getElem_cons_zero, List.getElem_cons_succ, List.setIfInBounds_toArray, List.set_cons_zero, List.set_cons_succ]
              refine wpTop.take 8 (v := ?_) rfl (by kernel_rfl) (by kernel_rfl) (by kernel_rfl) (by kernel_rfl) (fun _ _ _ h => h) (Or.inl ⟨by rfl, ?_⟩) (by assumption) ?_
              rotate_left
              · intro w hSw; (try dsimp only at hSw); go_simp; try (with_reducible rfl)
              try simp only [Act.put, List.getElem_toArray, List.getElem_cons_zero, List.getElem_cons_succ, List.setIfInBounds_toArray, List.set_cons_zero, List.set_cons_succ]
              refine wpTop.take 9 (v := ?_) rfl (by kernel_rfl) (by kernel_rfl) (by kernel_rfl) (by kernel_rfl) (fun _ _ _ h => h) (Or.inl ⟨by rfl, ?_⟩) (by assumption) ?_
              rotate_left
              · intro w hSw; (try dsimp only at hSw); go_simp; try (with_reducible rfl)
              try simp only [Act.put, List.getElem_toArray, List.getElem_cons_zero, List.getElem_cons_succ, List.setIfInBounds_toArray, List.set_cons_zero, List.set_cons_succ]
              refine wpTop.take 10 (v := ?_) rfl (by kernel_rfl) (by kernel_rfl) (by kernel_rfl) (by kernel_rfl) (fun _ _ _ h => h) (Or.inl ⟨by rfl, ?_⟩) (by assumption) ?_
              rotate_left
              · intro w hSw; (try dsimp only at hSw); go_simp; try (with_reducible rfl)
              try simp only [Act.put, List.getElem_toArray, List.getElem_cons_zero, List.getElem_cons_succ, List.setIfInBounds_toArray, List.set_cons_zero, List.set_cons_succ]
              refine wpTop.take 11 (v := ?_) rfl (by kernel_rfl) (by kernel_rfl) (by kernel_rfl) (by kernel_rfl) (fun _ _ _ h => h) (Or.inl ⟨by rfl, ?_⟩) (by assumption) ?_
              rotate_left
              · intro w hSw; (try dsimp only at hSw); go_simp; try (with_reducible rfl)
              try simp only [Act.put, List.getElem_toArray, List.getElem_cons_zero, List.getElem_cons_succ, List.setIfInBounds_toArray, List.set_cons_zero, List.set_cons_succ]
              refine wpTop.one 12 rfl (by kernel_rfl) (fun K hK => ?_)
              go_simp
              refine hK.out _ _ (fun _ => INV _ (by first | exact hd4 | exact hd4.alloc hd4.size _)) (fun hH => ?_)
              clear hK K
              have hHeld := hH (by decide)
              clear hH
              try simp only [Act.put, List.getElem_toArray, List.getElem_cons_zero, List.getElem_cons_succ, List.setIfInBounds_toArray, List.set_cons_zero, List.set_cons_succ]
              refine wpTop.one 13 rfl (by kernel_rfl) (fun K hK => ?_)
              have hd5 : Below w4.heap.size w4 (w4.alloc (.cells #[.int .i64 a3, .int .i64 b3, .int .i64 c3] 85)).drew := ((Below.refl _ _).alloc (Nat.le_refl _) _).drew
              have P5 := HP4.out.keep hd5
              refine app_step rfl _ _ _ rfl (g6 + 1) 85 i0 (.agg #[.int .i64 0, .int .i64 0, .int .i64 0]) 3 24 Tryd.underlying28 hi hz0 hz1 hz2 rfl (by decide) (.slice A6 L.length c6) L.length (flat L) rfl P5.sq (some ⟨w4.heap.size, 0, none⟩) 1 1 [.int .i64 a3, .int .i64 b3, .int .i64 c3] rfl rfl (.inr ⟨_, rfl, new3 _ _ _ _ _⟩) (one3 _ _ _) hk1 hk2 (by have := P5.box.lt; omega) ?_
              intro v' w6 hown6 hgrow hv6
              obtain ⟨A7, c7, rfl⟩ := own_val hown6
              have P6 := P5.push ⟨a3, b3, c3⟩ hgrow hown6
              have hne6 : (.slice A6 L.length c6 : Value).ownBlock ≠ some g6 := fun e => by have := (P5.sq.lt g6 e).1; omega
              have q2 := (P5.box.far hgrow hne6).c2
              have q3 := (hgrow.frozen_far ⟨g6, 2, none⟩ P5.box.lt (fun e => hne6 e.symm)).trans (P5.bf 2)
              have q4 := P5.box.lt
              have B5 := hb44.trans (hd5.mono hb44.size)
              have B6 := B5.grown hgrow B5.size (fun k hk => by have := P5.sq.lt k hk; omega)
              have B7 := B6.setCell (p := ⟨g6, 2, none⟩) (show w.heap.size ≤ g6 by omega) (.slice A7 (L.length + 1) c7)
              have far4 := own_far (own_keep HO4.out hd5) hgrow (fun k hk e => by have := HO4.out.lt k hk; have := HSL.out k e; omega)
              have y40 : w6.cell? ⟨g4, 0, none⟩ = some (.int .i64 a3) := by rw [far4.cellAt 0 (by omega)]; rfl
              have y41 : w6.cell? ⟨g4, 1, none⟩ = some (.int .i64 b3) := by rw [far4.cellAt 1 (by omega)]; rfl
              have y42 : w6.cell? ⟨g4, 2, none⟩ = some (.int .i64 c3) := by rw [far4.cellAt 2 (by omega)]; rfl
              refine hK.out _ _ (fun _ => ⟨q2, y40, y41, y42⟩) (fun hH => ?_)
              clear hK K hH
              try simp only [Act.put, List.getElem_toArray, List.getElem_cons_zero, List.getElem_cons_succ, List.setIfInBounds_toArray, List.set_cons_zero, List.set_cons_succ]
              refine wpTop.one 14 rfl (by kernel_rfl) (fun K hK => ?_)
              go_simp
              refine hK.out _ _ (fun h => absurd h (by decide)) (fun hH => ?_)
              clear hK K hH
              try simp only [Act.put, List.getElem_toArray, List.getElem_cons_zero, List.getElem_cons_succ, List.setIfInBounds_toArray, List.set_cons_zero, List.set_cons_succ]
              refine wpTop.one 15 rfl (by kernel_rfl) (fun K hK => ?_)
              go_simp
              refine hK.out _ _ (fun h => absurd h (by decide)) (fun hH => ?_)
              clear hK K hH
              try simp only [Act.put, List.getElem_toArray, List.getElem_cons_zero, List.getElem_cons_succ, List.setIfInBounds_toArray, List.set_cons_zero, List.set_cons_succ]
              refine wpTop.all (by kernel_rfl) ?_ _
              go_wp2_with fail
              go_roundw
              case rel =>
                  exact ⟨k + 1, A7, c7, L ++ [⟨a3, b3, c3⟩], by omega, by go_num, by rw [List.take_succ, HT.out, HSQ.out, List.map_append]; simp [HS3.out.1], fun s hs => by
                    rcases List.mem_append.1 hs with h | h
                    · exact HNN.out s h
                    · obtain rfl := List.mem_singleton.1 h
                      exact HS3.out.2, P6, B7⟩
              case measure => simp [intOf]; omega)
          · have hno : ∀ W H L, Good W H L → txC W.toNat H.toNat L ≠ l := fun W H M hG e => by
              have h := HGF.out W H M hG e
              have e2 : T = M.map sqt := (List.cons.inj h).2
              have e3 := HT.out
              rw [e2, List.getElem?_map] at e3
              cases hm : M[k]? with
              | none => rw [hm] at e3; cases e3
              | some s =>
                rw [hm] at e3
                have e4 : sqt s = t := Option.some.inj e3
                exact hN _ (e4 ▸ sqt_nums (good_nn hG s (List.mem_of_getElem? hm)))
            have HN := Lib.hid hno
            obtain ⟨kl, k0, k1, k2⟩ := hP4.res
            have f0 := hP4.rf 0
            have f1 := hP4.rf 1
            have f2 := hP4.rf 2
            clear hno CT hb4 hP hP4 hN
            go_wp2_with fail
            (try simp only [Exit.inBlock, Exit.then])
            refine bodyPost_ret (ret_cutI (Bx.set3 ⟨kl, k0, k1, k2⟩ 0 0 none 0 0) rfl rfl) rfl ?_
            exact ⟨below_set3 hb44 _ _ _, .inr ⟨HN.out, rfl⟩⟩)
      · obtain rfl : k = T.length := by omega
        clear hLk
        rw [List.take_of_length_le (Nat.le_refl _)] at hsq
        have hSq := sqs_of_own hP.sq
        have hcapL := own_cap hP.sq
        have hX0 : 0 ≤ X ∧ X < 9223372036854775808 := by rw [HX.out]; omega
        have hY0 : 0 ≤ Y ∧ Y < 9223372036854775808 := by rw [HY.out]; omega
        have hhd : hh = dec X.toNat ++ 120 :: dec Y.toNat := by rw [HX.out, HY.out]; exact HHD.out
        have hwf : ∀ s ∈ L, wfS s := fun s hs => by
          obtain ⟨h1, h2, h3⟩ := hnn s hs
          simp only [wfS, wfI]
          omega
        have CG := Lib.hid (isCut_good X Y A6 L.length c6 L wr rfl hcapL hSq hwf)
        obtain ⟨p0, p1, p2, p3⟩ := id hP.box
        obtain ⟨q0, q1, q2, q3⟩ := id hP.res
        have f0 := hP.rf 0
        have f1 := hP.rf 1
        have f2 := hP.rf 2
        have i2 : ¬ (T.length : Int) < (T.length : Int) := by omega
        have HP := Lib.hid hP
        by_cases hG : Good X Y L
        · have htx : txC X.toNat Y.toNat L = l := by
            rw [← HJ.out, hhd, hsq, join_ct]; rfl
          have HGG := Lib.hid hG
          have HTX := Lib.hid htx
          have CG := Lib.hid (callB_yes CG.out hG)
          clear hG htx hSq hsq hnn hwf hP hhd
          go_wp2_with fail
          (with_reducible refine CG.out.mono ?_)
          rintro e w8 ⟨rfl, hb8⟩
          have P8 := HP.out.keep hb8
          have B8 := hbr.trans (hb8.mono hbr.size)
          obtain ⟨p0, p1, p2, p3⟩ := id P8.box
          obtain ⟨q0, q1, q2, q3⟩ := id P8.res
          have f0 := P8.rf 0
          have f1 := P8.rf 1
          have f2 := P8.rf 2
          have HP8 := Lib.hid P8
          clear hb8 P8
          go_wp2_with fail
          (try simp only [Exit.inBlock, Exit.then])
          refine bodyPost_ret (ret_cutI (Bx.set3 ⟨q0, q1, q2, q3⟩ X Y A6 L.length c6) rfl rfl) rfl ?_
          exact ⟨below_set3 B8 _ _ _, .inl ⟨X, Y, A6, c6, L, rfl, own_base (ownsRow_setCell_below (ownsRow_setCell_below (ownsRow_setCell_below HP8.out.sq (by show w.heap.size < g6 + 1; omega) _) (by show w.heap.size < g6 + 1; omega) _) (by show w.heap.size < g6 + 1; omega) _) (by omega), HGG.out, HTX.out⟩⟩
        · have hno : ∀ W H M, Good W H M → txC W.toNat H.toNat M ≠ l := fun W H M hG' e => by
            have h := HGF.out W H M hG' e
            have e1 : hh = dec W.toNat ++ 120 :: dec H.toNat := (List.cons.inj h).1
            have e2 : T = M.map sqt := (List.cons.inj h).2
            have e3 := sqts_inj hnn (good_nn hG') (hsq.symm.trans e2)
            have hWr := hG'.1
            have hHr := hG'.2.1
            have hn1 := head_nums (W := W) (H := H) (by omega) (by omega)
            have hn2 := head_nums (W := X) (H := Y) hX0 hY0
            rw [← e1] at hn1
            rw [← hhd] at hn2
            have e4 := nums_uniq (by decide) (by omega) hn1 hn2
            simp only [List.cons.injEq] at e4
            have eW : W = X := by omega
            have eH : H = Y := by omega
            rw [eW, eH, ← e3] at hG'
            exact hG hG'
          have HN := Lib.hid hno
          have CG := Lib.hid (callB_no CG.out hG)
          clear hno hG hSq hsq hnn hwf hP hhd
          go_wp2_with fail
          (with_reducible refine CG.out.mono ?_)
          rintro e w8 ⟨rfl, hb8⟩
          have P8 := HP.out.keep hb8
          have B8 := hbr.trans (hb8.mono hbr.size)
          obtain ⟨q0, q1, q2, q3⟩ := id P8.res
          have f0 := P8.rf 0
          have f1 := P8.rf 1
          have f2 := P8.rf 2
          clear hb8 P8
          go_wp2_with fail
          (try simp only [Exit.inBlock, Exit.then])
          refine bodyPost_ret (ret_cutI (Bx.set3 ⟨q0, q1, q2, q3⟩ 0 0 none 0 0) rfl rfl) rfl ?_
          exact ⟨below_set3 B8 _ _ _, .inr ⟨HN.out, rfl⟩⟩
  · have hno : ∀ W H L, Good W H L → txC W.toNat H.toNat L ≠ l := fun W H M hG e => by
      have h := HGF.out W H M hG e
      have e1 : hh = dec W.toNat ++ 120 :: dec H.toNat := (List.cons.inj h).1
      have hWr := hG.1
      have hHr := hG.2.1
      exact hN _ (e1 ▸ head_nums (by omega) (by omega))
    have HN := Lib.hid hno
    obtain ⟨kl, k0, k1, k2⟩ := id K3
    have f0 := F3 0
    have f1 := F3 1
    have f2 := F3 2
    clear hno CH ho ho' hb3 K2 B2 F3 F2 hN
    go_wp2_with fail
    (try simp only [Exit.inBlock, Exit.then])
    refine bodyPost_ret (ret_cutI (Bx.set3 ⟨kl, k0, k1, k2⟩ 0 0 none 0 0) rfl rfl) rfl ?_
    exact ⟨below_set3 B3 _ _ _, .inr ⟨HN.out, rfl⟩⟩
end Go.Proofs.YtbkfenhiaedlgaaDoor
