/- The program's reading of a puzzle's text. -/
import Derived.Test.YtbkfenhiaedlgaaDoorPzPc
import Derived.Test.YtbkfenhiaedlgaaDoorPcI
import Derived.Test.YtbkfenhiaedlgaaDoorShelfC
import Derived.Lib.SmallJoins
set_option linter.all false
namespace Go.Proofs.YtbkfenhiaedlgaaDoor
open Go.RowKit

theorem cut_cases (b : UInt8) (l : List UInt8) : (∃ h q, Lib.cut l [b] = (h, q, true) ∧ l = h ++ b :: q ∧ b ∉ h) ∨ (Lib.cut l [b] = (l, [], false) ∧ b ∉ l) := by
  rcases ix_cases b l with ⟨h, hn⟩ | ⟨i, h, hi, e, hn⟩
  · refine .inr ⟨?_, hn⟩
    unfold Lib.cut
    rw [h, if_neg (by omega)]
  · refine .inl ⟨l.take i, l.drop (i + 1), ?_, e, hn⟩
    unfold Lib.cut
    rw [h, if_pos (by omega)]; rfl
theorem cut_any (l : List UInt8) (b : UInt8) (hl : l.length ≤ 1048576) (w : World) (hM : MaxOk w) :
    Calls Tryd.prog 78 #[.string (bas l), .string (bas [b])] w fun e w' => Below w.heap.size w w' ∧
      ((∃ h q, e = .returned (.tuple #[.string (bas h), .string (bas q), .bool true]) ∧ l = h ++ b :: q ∧ b ∉ h) ∨ (e = .returned (.tuple #[.string (bas l), .string (bas []), .bool false]) ∧ b ∉ l)) := by
  obtain ⟨m, hm⟩ := hM
  have hsz := bas_size l
  refine (Tryd.strings_Cut (bas l) (bas [b]) m w (by omega) hm).mono ?_
  rintro e w' ⟨rfl, n, rfl⟩
  rw [bas_data, bas_data]
  refine ⟨⟨rfl, rfl, rfl, Nat.le_refl _, fun _ _ => rfl⟩, ?_⟩
  rcases cut_cases b l with ⟨h, q, e, h1, h2⟩ | ⟨e, h2⟩
  · rw [e]; exact .inl ⟨h, q, rfl, h1, h2⟩
  · rw [e]; exact .inr ⟨rfl, h2⟩
theorem clq_nums {s : Sq} (h : Nn s) : Nums 46 3 (clq s) [s.x.toNat, s.y.toNat, s.d.toNat] := by
  obtain ⟨h1, h2, h3⟩ := h
  exact ⟨rfl, by simp [Lib.join, List.intercalate, clq], by intro r hr; simp at hr; rcases hr with rfl | rfl | rfl <;> omega⟩
theorem nums_clq {t : List UInt8} {x y d : Nat} (h : Nums 46 3 t [x, y, d]) : t = clq ⟨x, y, d⟩ ∧ Nn ⟨x, y, d⟩ := by
  have hx := h.2.2 x (by simp)
  have hy := h.2.2 y (by simp)
  have hd := h.2.2 d (by simp)
  refine ⟨by rw [h.2.1]; simp [Lib.join, List.intercalate, clq], ⟨by show (0 : Int) ≤ (x : Int); omega, by show (x : Int) < _; omega⟩, ⟨by show (0 : Int) ≤ (y : Int); omega, by show (y : Int) < _; omega⟩, ⟨by show (0 : Int) ≤ (d : Int); omega, by show (d : Int) < _; omega⟩⟩
theorem clq_inj {s q : Sq} (hs : Nn s) (hq : Nn q) (h : clq s = clq q) : s = q := by
  have h1 := clq_nums hs
  rw [h] at h1
  have e := nums_uniq (b := 46) (by decide) (by omega) h1 (clq_nums hq)
  obtain ⟨a1, a2, a3⟩ := hs
  obtain ⟨b1, b2, b3⟩ := hq
  have e1 := congrArg (fun l => l[0]?) e
  have e2 := congrArg (fun l => l[1]?) e
  have e3 := congrArg (fun l => l[2]?) e
  simp at e1 e2 e3
  cases s; cases q
  simp at *
  omega
theorem clqs_inj : ∀ {L M : List Sq}, (∀ s ∈ L, Nn s) → (∀ s ∈ M, Nn s) → L.map clq = M.map clq → L = M
  | [], [], _, _, _ => rfl
  | [], _ :: _, _, _, h => by simp at h
  | _ :: _, [], _, _, h => by simp at h
  | s :: L, q :: M, hL, hM, h => by
    simp only [List.map_cons, List.cons.injEq] at h
    rw [clq_inj (hL s (by simp)) (hM q (by simp)) h.1, clqs_inj (fun r hr => hL r (List.mem_cons_of_mem _ hr)) (fun r hr => hM r (List.mem_cons_of_mem _ hr)) h.2]
theorem goodP_nn {W H : Int} {L : List Sq} (hG : GoodP W H L) : ∀ s ∈ L, Nn s := fun s hs => by
  obtain ⟨h1, h2, h3⟩ := goodP_sm hG s hs
  exact ⟨by omega, by omega, by omega⟩
theorem ptx_parts {W H : Int} {L : List Sq} {h q : List UInt8} (e : ptx W.toNat H.toNat L = h ++ 58 :: q) (hn : (58 : UInt8) ∉ h) : h = dec W.toNat ++ 120 :: dec H.toNat ∧ q = Lib.join (L.map clq) [44] := by
  have e2 := congrArg (spl 58) e
  rw [ptx_form, spl_at _ _ _ (head_no58 _ _), spl_no _ _ (cls_no (by decide) (by decide) (by decide) L), spl_at _ _ _ hn] at e2
  have e3 := (List.cons.inj e2).2
  refine ⟨(List.cons.inj e2).1.symm, ?_⟩
  have e4 := join_spl 58 q
  rw [← e3, Lib.join_one] at e4
  exact e4.symm
theorem ptx_has {W H : Int} {L : List Sq} : (58 : UInt8) ∈ ptx W.toNat H.toNat L := by rw [ptx_form]; simp
theorem cls_fields {L : List Sq} (hn : L.length ≤ 6) (h0 : L ≠ []) : Lib.splitN (Lib.join (L.map clq) [44]) [44] 6 = L.map clq :=
  splitN_of 44 (by simpa using h0) (fun x hx => by obtain ⟨s, _, rfl⟩ := List.mem_map.1 hx; exact clq_no (by decide) (by decide) s) (by simpa using hn)
theorem str_bas58 : (⟨#[58]⟩ : ByteArray) = bas [58] := rfl
theorem str_bas46 : (⟨#[46]⟩ : ByteArray) = bas [46] := rfl
/-- What ParsePuzzle returns. -/
def RetPy (w : World) (l : List UInt8) (e : Ending) (w' : World) : Prop :=
  Below w.heap.size w w' ∧ ((∃ W H A c, ∃ L : List Sq, e = .returned (.tuple #[.agg #[.int .i64 W, .int .i64 H, .slice A L.length c], .bool true]) ∧ w'.ownsRow w.heap.size 122 3 (.slice A L.length c) L.length (flat L) ∧ GoodP W H L ∧ ptx W.toNat H.toNat L = l) ∨
    ((∀ W H L, GoodP W H L → ptx W.toNat H.toNat L ≠ l) ∧ e = .returned (.tuple #[.agg #[.int .i64 0, .int .i64 0, .slice none 0 0], .bool false])))
set_option maxRecDepth 100000 in
theorem ret_pzI {tmps : Array Value} {w : World} {B : Nat} {W H : Int} {A : Option Addr} {n c : Nat} {b : Bool} (K : Bx B w W H A n c) (hp : tmps.getD 2 undef = .pointer (some ⟨B, 0, none⟩)) (hu : tmps.getD 3 undef = .bool b) :
    (results Tryd.f40 tmps).run Tryd.prog w = .ok (.tuple #[.agg #[.int .i64 W, .int .i64 H, .slice A n c], .bool b]) w := by
  have c0 := K.c0
  have c1 := K.c1
  have c2 := K.c2
  rw [results_cell_tmp rfl, hp, hu]
  simp [go_sem, c0, c1, c2]
set_option maxRecDepth 100000 in
theorem ret_pon {tmps : Array Value} {w : World} {B : Nat} {W H : Int} {A : Option Addr} {n c : Nat} {b : Bool} (K : Bx B w W H A n c) (hp : tmps.getD 2 undef = .pointer (some ⟨B, 0, none⟩)) (hu : tmps.getD 3 undef = .bool b) :
    (results Tryd.f89 tmps).run Tryd.prog w = .ok (.tuple #[.agg #[.int .i64 W, .int .i64 H, .slice A n c], .bool b]) w := by
  have c0 := K.c0
  have c1 := K.c1
  have c2 := K.c2
  rw [results_cell_tmp rfl, hp, hu]
  simp [go_sem, c0, c1, c2]
set_option maxRecDepth 100000 in
set_option maxHeartbeats 2000000 in
theorem pon_any (X Y : Int) (A : Option Addr) (n c : Nat) (L : List Sq) (w : World) (hl : L.length = n) (hn : n ≤ 9223372036854775807) (hL : SqsAt w w.heap.size A L) :
    Calls Tryd.prog 89 #[.agg #[.int .i64 X, .int .i64 Y, .slice A n c]] w fun e w' => Below w.heap.size w w' ∧ ((GoodP X Y L ∧ e = .returned (.tuple #[.agg #[.int .i64 X, .int .i64 Y, .slice A n c], .bool true])) ∨ (¬ GoodP X Y L ∧ e = .returned (.tuple #[.agg #[.int .i64 0, .int .i64 0, .slice none 0 0], .bool false]))) := by
  obtain ⟨B, hB⟩ : ∃ B, B = w.heap.size := ⟨_, rfl⟩
  obtain ⟨U1, hU1⟩ : ∃ U1, U1 = w.alloc (.cells #[.int .i64 X, .int .i64 Y, .slice A n c] 65) := ⟨_, rfl⟩
  obtain ⟨w2, hw2⟩ : ∃ w2, w2 = U1.alloc (.cells #[.int .i64 0, .int .i64 0, .slice none 0 0] 65) := ⟨_, rfl⟩
  have s1 : U1.heap.size = B + 1 := by rw [hU1, hB]; simp
  have b1 : Below w.heap.size w U1 := by rw [hU1]; exact (Below.refl _ _).alloc (Nat.le_refl _) _
  have b2 : Below U1.heap.size U1 w2 := by rw [hw2]; exact (Below.refl _ _).alloc (Nat.le_refl _) _
  have hb2 := b1.trans (b2.mono b1.size)
  have Ka : Bx B w2 X Y A n c := by have h := Bx.start w X Y A n c 65; rw [← hU1, ← hB] at h; exact h.next b2
  have Kr : Bx (B + 1) w2 0 0 none 0 0 := by have h := Bx.start U1 0 0 none 0 0 65; rw [← hw2, s1] at h; exact h
  have Fr : ∀ o, w2.frozen? ⟨B + 1, o, none⟩ = false := fun o => by rw [hw2, ← s1]; simp
  have hL2 := (hL.below hb2).mono hb2.size
  have C := implIsPuz_any X Y A n c L w2 hl hn hL2
  have hle : w.heap.size ≤ B + 1 := by omega
  have HW := Lib.hid (show w2 = (w.alloc (.cells #[.int .i64 X, .int .i64 Y, .slice A n c] 65)).alloc (.cells #[.int .i64 0, .int .i64 0, .slice none 0 0] 65) by rw [hw2, hU1])
  have HB := Lib.hid hB
  clear hU1 hw2 s1 b1 b2 hB hL hL2
  by_cases hG : GoodP X Y L
  · have C := Lib.hid (callB_yes C hG)
    have HG := Lib.hid hG
    clear hG
    obtain ⟨l0, a0, a1, a2⟩ := id Ka
    go_enter Tryd.func89, Tryd.ntmps89
    go_upto_region 1 with fail
    rw [← HW.out, ← HB.out]
    go_wp2_with fail
    (with_reducible refine C.out.mono ?_)
    rintro e w3 ⟨rfl, hb3⟩
    have Ka := Ka.next hb3
    have Kr3 := Kr.next hb3
    have Fr3 : ∀ o, w3.frozen? ⟨B + 1, o, none⟩ = false := fun o => (hb3.frozen (p := ⟨B + 1, o, none⟩) Kr.lt).trans (Fr o)
    have B3 := hb2.trans (hb3.mono hb2.size)
    clear l0 a0 a1 a2 C hb3 Kr
    obtain ⟨_, a0, a1, a2⟩ := id Ka
    obtain ⟨l1, r0, r1, r2⟩ := id Kr3
    have f0 := Fr3 0
    have f1 := Fr3 1
    have f2 := Fr3 2
    go_wp2_with fail
    (try simp only [Exit.inBlock, Exit.then])
    refine bodyPost_ret (ret_pon (Bx.set3 ⟨l1, r0, r1, r2⟩ X Y A n c) rfl rfl) rfl ?_
    exact ⟨((B3.setCell (p := ⟨B + 1, 0, none⟩) hle _).setCell (p := ⟨B + 1, 1, none⟩) hle _).setCell (p := ⟨B + 1, 2, none⟩) hle _, .inl ⟨HG.out, rfl⟩⟩
  · have C := Lib.hid (callB_no C hG)
    have HG := Lib.hid hG
    clear hG
    obtain ⟨l0, a0, a1, a2⟩ := id Ka
    go_enter Tryd.func89, Tryd.ntmps89
    go_upto_region 1 with fail
    rw [← HW.out, ← HB.out]
    go_wp2_with fail
    (with_reducible refine C.out.mono ?_)
    rintro e w3 ⟨rfl, hb3⟩
    have Kr3 := Kr.next hb3
    have Fr3 : ∀ o, w3.frozen? ⟨B + 1, o, none⟩ = false := fun o => (hb3.frozen (p := ⟨B + 1, o, none⟩) Kr.lt).trans (Fr o)
    have B3 := hb2.trans (hb3.mono hb2.size)
    clear l0 a0 a1 a2 C hb3 Kr
    obtain ⟨l1, r0, r1, r2⟩ := id Kr3
    have f0 := Fr3 0
    have f1 := Fr3 1
    have f2 := Fr3 2
    go_wp2_with fail
    (try simp only [Exit.inBlock, Exit.then])
    refine bodyPost_ret (ret_pon (Bx.set3 ⟨l1, r0, r1, r2⟩ 0 0 none 0 0) rfl rfl) rfl ?_
    exact ⟨((B3.setCell (p := ⟨B + 1, 0, none⟩) hle _).setCell (p := ⟨B + 1, 1, none⟩) hle _).setCell (p := ⟨B + 1, 2, none⟩) hle _, .inr ⟨HG.out, rfl⟩⟩
set_option maxRecDepth 100000 in
set_option maxHeartbeats 8000000 in
theorem implPz_any (l : List UInt8) (hl : l.length ≤ 1048576) (w : World) (hS : StrOk w) : Calls Tryd.prog 40 #[.string (bas l)] w (RetPy w l) := by
  have B0 : Below w.heap.size w (w.alloc (.cells #[.int .i64 0, .int .i64 0, .slice none 0 0] 65)) := (Below.refl _ _).alloc (Nat.le_refl _) _
  have K0 := Bx.start w 0 0 none 0 0 65
  have C1 := cut_any l 58 hl (w.alloc (.cells #[.int .i64 0, .int .i64 0, .slice none 0 0] 65)) (hS.below B0).max
  have CN := Lib.hid (fun (h : List UInt8) (hh : h.length ≤ 1048576) V (hV : StrOk V) => pn_any h 120 (by decide) 2 (by omega) hh V hV)
  obtain ⟨SS, hSS⟩ : ∃ SS, bas l = SS := ⟨_, rfl⟩
  rw [hSS, ← str_bas58] at C1
  rw [hSS]
  have HC1 := Lib.hid C1
  have HSS := Lib.hid hSS
  clear C1 hSS
  go_enter Tryd.func40, Tryd.ntmps40
  go_wp2_with fail
  (with_reducible refine HC1.out.mono ?_)
  rintro e w2 ⟨hb2, hv⟩
  have K2 := K0.next hb2
  have F2 : ∀ o, w2.frozen? ⟨w.heap.size, o, none⟩ = false := fun o => (hb2.frozen (p := ⟨w.heap.size, o, none⟩) K0.lt).trans (by simp)
  have B2 := B0.trans (hb2.mono B0.size)
  have hS2 := hS.below B2
  clear HC1 K0 B0 hb2
  rcases hv with ⟨hh, q, rfl, hlq, hn58⟩ | ⟨rfl, hno⟩
  · have hhl : hh.length + q.length + 1 = l.length := by rw [hlq]; simp; omega
    have CH := CN.out hh (by omega) w2 hS2
    rw [← str_bas120, show ((2 : Nat) : Int) = (2 : Int) from rfl] at CH
    have CH := Lib.hid CH
    have HPT := Lib.hid (fun (W H : Int) (L : List Sq) (e : ptx W.toNat H.toNat L = l) => ptx_parts (by rw [e]; exact hlq) hn58)
    have HLQ := Lib.hid hlq
    obtain ⟨SQ, hSQ⟩ : ∃ SQ, bas q = SQ := ⟨_, rfl⟩
    obtain ⟨SH, hSH⟩ : ∃ SH, bas hh = SH := ⟨_, rfl⟩
    rw [hSQ, hSH]
    rw [hSH] at CH
    have HSQ0 := Lib.hid hSQ
    clear hSH hlq hSQ
    go_wp2_with fail
    (with_reducible refine CH.out.mono ?_)
    rintro e w3 ⟨hb3, hv⟩
    have B3 := B2.trans (hb3.mono B2.size)
    have K3 := K2.next hb3
    have hlt2 := K2.lt
    have F3 : ∀ o, w3.frozen? ⟨w.heap.size, o, none⟩ = false := fun o => (hb3.frozen (p := ⟨w.heap.size, o, none⟩) K2.lt).trans (F2 o)
    have hS3 := hS2.below hb3
    rcases hv with ⟨R, g3, hN, rfl, ho3⟩ | ⟨hN, rfl⟩
    · obtain ⟨x, y, rfl⟩ : ∃ x y, R = [x, y] := by
        match R, hN.1 with
        | [x, y], _ => exact ⟨x, y, rfl⟩
      have d0 : w3.cell? ⟨g3, 0, none⟩ = some (.int .i64 x) := by rw [ho3.cellAt 0 (by omega)]; rfl
      have d1 : w3.cell? ⟨g3, 1, none⟩ = some (.int .i64 y) := by rw [ho3.cellAt 1 (by omega)]; rfl
      have hlt3 := own_lt ho3
      have HNM := Lib.hid hN
      have hx63 := hN.2.2 x (by simp)
      have hy63 := hN.2.2 y (by simp)
      obtain ⟨kl, k0, k1, k2⟩ := id K3
      clear CH ho3 hb3 K2 B2 F2 hN
      go_wp2_with fail
      have INV : ∀ V, Below w3.heap.size w3 V → V.cell? ⟨g3, 0, none⟩ = some (.int .i64 x) ∧ V.cell? ⟨g3, 1, none⟩ = some (.int .i64 y) := fun V hb => ⟨(hb.cell (p := ⟨g3, 0, none⟩) hlt3.2).trans d0, (hb.cell (p := ⟨g3, 1, none⟩) hlt3.2).trans d1⟩
      have hd0 : Below w3.heap.size w3 w3.drew := (Below.refl _ _).drew
      have hda : ∀ o, Below w3.heap.size w3 (w3.alloc o).drew := fun o => ((Below.refl _ _).alloc (Nat.le_refl _) o).drew
      refine wp_region_top 11 (fun w' => w'.cell? ⟨g3, 0, none⟩ = some (.int .i64 x) ∧ w'.cell? ⟨g3, 1, none⟩ = some (.int .i64 y)) (by kernel_rfl) (INV _ hd0) (fun hHeld => ?_)
      refine wpTop.take 0 (v := ?_) rfl (by kernel_rfl) (by kernel_rfl) (by kernel_rfl) (by kernel_rfl) (fun _ _ _ h => h) (Or.inl ⟨by rfl, ?_⟩) (by assumption) ?_
      rotate_left
      · intro w hSw; (try dsimp only at hSw); go_simp; try (with_reducible rfl)
      try simp only [Act.put, List.getElem_toArray, List.getElem_cons_zero, List.getElem_cons_succ, List.setIfInBounds_toArray, List.set_cons_zero, List.set_cons_succ]
      refine wpTop.take 1 (v := ?_) rfl (by kernel_rfl) (by kernel_rfl) (by kernel_rfl) (by kernel_rfl) (fun _ _ _ h => h) (Or.inl ⟨by rfl, ?_⟩) (by assumption) ?_
      rotate_left
      · intro w hSw; (try dsimp only at hSw); go_simp; try (with_reducible rfl)
      try simp only [Act.put, List.getElem_toArray, List.getElem_cons_zero, List.getElem_cons_succ, List.setIfInBounds_toArray, List.set_cons_zero, List.set_cons_succ]
      refine wpTop.take 2 (v := ?_) rfl (by kernel_rfl) (by kernel_rfl) (by kernel_rfl) (by kernel_rfl) (fun _ _ _ h => h) (Or.inl ⟨by rfl, ?_⟩) (by assumption) ?_
      rotate_left
      · intro w hSw; (try dsimp only at hSw); go_simp; try (with_reducible rfl)
      try simp only [Act.put, List.getElem_toArray, List.getElem_cons_zero, List.getElem_cons_succ, List.setIfInBounds_toArray, List.set_cons_zero, List.set_cons_succ]
      refine wpTop.take 3 (v := ?_) rfl (by kernel_rfl) (by kernel_rfl) (by kernel_rfl) (by kernel_rfl) (fun _ _ _ h => h) (Or.inl ⟨by rfl, ?_⟩) (by assumption) ?_
      rotate_left
      · intro w hSw; (try dsimp only at hSw); go_simp; try (with_reducible rfl)
      try simp only [Act.put, List.getElem_toArray, List.getElem_cons_zero, List.getElem_cons_succ, List.setIfInBounds_toArray, List.set_cons_zero, List.set_cons_succ]
      refine wpTop.take 4 (v := ?_) rfl (by kernel_rfl) (by kernel_rfl) (by kernel_rfl) (by kernel_rfl) (fun _ _ _ h => h) (Or.inl ⟨by rfl, ?_⟩) (by assumption) ?_
      rotate_left
      · intro w hSw; (try dsimp only at hSw); go_simp; try (with_reducible rfl)
      try simp only [Act.put, List.getElem_toArray, List.getElem_cons_zero, List.getElem_cons_succ, List.setIfInBounds_toArray, List.set_cons_zero, List.set_cons_succ]
      refine wpTop.take 5 (v := ?_) rfl (by kernel_rfl) (by kernel_rfl) (by kernel_rfl) (by kernel_rfl) (fun _ _ _ h => h) (Or.inl ⟨by rfl, ?_⟩) (by assumption) ?_
      rotate_left
      · intro w hSw; (try dsimp only at hSw); go_simp; try (with_reducible rfl)
      try simp only [Act.put, List.getElem_toArray, List.getElem_cons_zero, List.getElem_cons_succ, List.setIfInBounds_toArray, List.set_cons_zero, List.set_cons_succ]
      refine wpTop.take 6 (v := ?_) rfl (by kernel_rfl) (by kernel_rfl) (by kernel_rfl) (by kernel_rfl) (fun _ _ _ h => h) (Or.inl ⟨by rfl, ?_⟩) (by assumption) ?_
      rotate_left
      · intro w hSw; (try dsimp only at hSw); go_simp; try (with_reducible rfl)
      try simp only [Act.put, List.getElem_toArray, List.getElem_cons_zero, List.getElem_cons_succ, List.setIfInBounds_toArray, List.set_cons_zero, List.set_cons_succ]
      refine wpTop.one 7 rfl (by kernel_rfl) (fun K hK => ?_)
      go_simp
      refine hK.out _ _ (fun _ => INV _ (by first | exact hd0 | exact hd0.alloc hd0.size _ | exact hda _ | exact below_set3 (hd0.alloc hd0.size _) _ _ _ | exact below_set3 (hda _) _ _ _)) (fun hH => ?_)
      clear hK K
      have hHeld := hH (by decide)
      clear hH
      try simp only [Act.put, List.getElem_toArray, List.getElem_cons_zero, List.getElem_cons_succ, List.setIfInBounds_toArray, List.set_cons_zero, List.set_cons_succ]
      refine wpTop.one 8 rfl (by kernel_rfl) (fun K hK => ?_)
      go_simp
      refine hK.out _ _ (fun _ => INV _ (by first | exact hd0 | exact hd0.alloc hd0.size _ | exact hda _ | exact below_set3 (hd0.alloc hd0.size _) _ _ _ | exact below_set3 (hda _) _ _ _)) (fun hH => ?_)
      clear hK K
      have hHeld := hH (by decide)
      clear hH
      try simp only [Act.put, List.getElem_toArray, List.getElem_cons_zero, List.getElem_cons_succ, List.setIfInBounds_toArray, List.set_cons_zero, List.set_cons_succ]
      refine wpTop.all (by kernel_rfl) ?_ _
      go_upto_region 6 with fail
      have hbA : Below w3.heap.size w3 (w3.alloc (.cells #[.int .i64 x, .int .i64 y, .slice none 0 0] 65)).drew := hda _
      have PE0 : PE w.heap.size w3.heap.size x y none 0 [] (w3.alloc (.cells #[.int .i64 x, .int .i64 y, .slice none 0 0] 65)).drew :=
        ⟨K3.next hbA, fun o => (hbA.frozen (p := ⟨w.heap.size, o, none⟩) K3.lt).trans (F3 o), K3.lt, ⟨by simp, by simp, by simp, by simp⟩, fun o => by simp, World.ownsRow_nil _ _ _ _⟩
      have BB := B3.trans (hbA.mono B3.size)
      have hS5 := hS3.below hbA
      obtain ⟨X, hX⟩ : ∃ X : Int, X = x := ⟨_, rfl⟩
      obtain ⟨Y, hY⟩ : ∃ Y : Int, Y = y := ⟨_, rfl⟩
      obtain ⟨g6, hg6⟩ : ∃ g6, g6 = w3.heap.size := ⟨_, rfl⟩
      obtain ⟨w5, hw5⟩ : ∃ w5, w5 = (w3.alloc (.cells #[.int .i64 x, .int .i64 y, .slice none 0 0] 65)).drew := ⟨_, rfl⟩
      rw [← hw5] at PE0 BB hS5 ⊢
      rw [← hg6, ← hX, ← hY] at PE0
      rw [← hg6]
      have hlg := PE0.lt
      have hX0 : 0 ≤ X ∧ X < 9223372036854775808 := by omega
      have hY0 : 0 ≤ Y ∧ Y < 9223372036854775808 := by omega
      have hhd : hh = dec X.toNat ++ 120 :: dec Y.toNat := by rw [hX, hY]; exact nums_head HNM.out
      have HHD := Lib.hid hhd
      have HTXT := Lib.hid (fun (L : List Sq) (e : q = Lib.join (L.map clq) [44]) => (show ptx X.toNat Y.toNat L = l by rw [ptx_form, HLQ.out, hhd, e]))
      have HSAME := Lib.hid (fun (W H : Int) (M : List Sq) (hG' : GoodP W H M) (e : ptx W.toNat H.toNat M = l) => (show W = X ∧ H = Y ∧ q = Lib.join (M.map clq) [44] by
        obtain ⟨e1, e2⟩ := HPT.out W H M e
        have hz := hG'.size
        have hn1 := head_nums (W := W) (H := H) (by omega) (by omega)
        have hn2 := head_nums (W := X) (H := Y) hX0 hY0
        rw [← e1] at hn1
        rw [← hhd] at hn2
        have e4 := nums_uniq (by decide) (by omega) hn1 hn2
        simp only [List.cons.injEq] at e4
        exact ⟨by omega, by omega, e2⟩))
      clear hbA hda hX hY hg6 hw5 B3 K3 F3 kl k0 k1 k2 d0 d1 hlt2 hlt3 hd0 INV hhd HPT HLQ
      by_cases hq : q = []
      · have zq : (SQ.toList == (⟨#[]⟩ : ByteArray).toList) = true := by rw [← HSQ0.out, hq, ByteArray.toList_eq, ByteArray.toList_eq, bas_data]; rfl
        have zq2 : (SQ.toList == []) = true := by rw [← HSQ0.out, hq, ByteArray.toList_eq, bas_data]; rfl
        have hjn : q = Lib.join (([] : List Sq).map clq) [44] := by rw [hq]; rfl
        have hYS := HTXT.out [] hjn
        have hNO : ¬ GoodP X Y [] → ∀ W H M, GoodP W H M → ptx W.toNat H.toNat M ≠ l := fun hG W H M hG' e => by
          obtain ⟨e1, e2, e3⟩ := HSAME.out W H M hG' e
          rw [hq] at e3
          have := cls_nil e3.symm
          rw [e1, e2, this] at hG'
          exact hG hG'
        obtain ⟨A6, hA6⟩ : ∃ A6 : Option Addr, A6 = none := ⟨_, rfl⟩
        obtain ⟨c6, hc6⟩ : ∃ c6 : Nat, c6 = 0 := ⟨_, rfl⟩
        obtain ⟨L, hL⟩ : ∃ L : List Sq, L = [] := ⟨_, rfl⟩
        rw [← hA6, ← hc6, ← hL] at PE0
        rw [← hL] at hYS hNO
        have HYS := Lib.hid hYS
        have HNO := Lib.hid hNO
        have hLn : L.length ≤ 2000000 := by rw [hL]; simp
        obtain ⟨wr, hwr⟩ : ∃ wr, wr = w5 := ⟨_, rfl⟩
        rw [← hwr] at PE0 BB ⊢
        have hE := PE0
        have hbr := BB
        clear hA6 hc6 hL hwr PE0 BB hq hYS hNO hjn HTXT HSAME hS5
        have CP := Lib.hid (pon_any X Y A6 L.length c6 L wr rfl (by omega) (cls_of_own hE.sq))
        obtain ⟨p0, p1, p2, p3⟩ := id hE.box
        obtain ⟨q0, q1, q2, q3⟩ := id hE.res
        have f0 := hE.rf 0
        have f1 := hE.rf 1
        have f2 := hE.rf 2
        have HP := Lib.hid hE
        clear hE
        go_wp2_with fail
        (with_reducible refine CP.out.mono ?_)
        rintro e w8 ⟨hb8, hv⟩
        have P8 := HP.out.keep hb8
        have B8 := hbr.trans (hb8.mono hbr.size)
        clear p0 p1 p2 p3 q0 q1 q2 q3 f0 f1 f2
        obtain ⟨q0, q1, q2, q3⟩ := id P8.res
        have f0 := P8.rf 0
        have f1 := P8.rf 1
        have f2 := P8.rf 2
        have HP8 := Lib.hid P8
        rcases hv with ⟨hG, rfl⟩ | ⟨hG, rfl⟩
        · have HGG := Lib.hid hG
          have HTX := Lib.hid (HYS.out)
          clear hb8 P8 CP hG
          go_wp2_with fail
          (try simp only [Exit.inBlock, Exit.then])
          refine bodyPost_ret (ret_pzI (Bx.set3 ⟨q0, q1, q2, q3⟩ X Y A6 L.length c6) rfl rfl) rfl ?_
          exact ⟨below_set3 B8 _ _ _, .inl ⟨X, Y, A6, c6, L, rfl, own_base (ownsRow_setCell_below (ownsRow_setCell_below (ownsRow_setCell_below HP8.out.sq (by show w.heap.size < g6 + 1; omega) _) (by show w.heap.size < g6 + 1; omega) _) (by show w.heap.size < g6 + 1; omega) _) (by omega), HGG.out, HTX.out⟩⟩
        · have HN := Lib.hid (HNO.out hG)
          clear hb8 P8 CP hG
          go_wp2_with fail
          (try simp only [Exit.inBlock, Exit.then])
          refine bodyPost_ret (ret_pzI (Bx.set3 ⟨q0, q1, q2, q3⟩ 0 0 none 0 0) rfl rfl) rfl ?_
          exact ⟨below_set3 B8 _ _ _, .inr ⟨HN.out, rfl⟩⟩
      · have zq : (SQ.toList == (⟨#[]⟩ : ByteArray).toList) = false := by rw [← HSQ0.out, ByteArray.toList_eq, ByteArray.toList_eq, bas_data]; simpa using hq
        have zq2 : (SQ.toList == []) = false := by rw [← HSQ0.out, ByteArray.toList_eq, bas_data]; simpa using hq
        have CF := splitN_any q 44 6 (by omega) (by omega) w5 hS5.max
        have hFj := splitN_join 44 6 q
        have hFl := splitN_len 44 (n := 6) (by omega) q
        have hF0 := splitN_ne 44 6 q
        have HFO := Lib.hid (fun (M : List Sq) (e : q = Lib.join (M.map clq) [44]) (h : M.length ≤ 6) => (show Lib.splitN q [44] 6 = M.map clq by
          have h0 : M ≠ [] := fun e2 => hq (by rw [e, e2]; rfl)
          have h1 := cls_fields h h0
          rw [← e] at h1; exact h1))
        have hpl := piece_len 44 (xs := Lib.splitN q [44] 6)
        rw [hFj] at hpl
        obtain ⟨F, hF⟩ : ∃ F, Lib.splitN q [44] 6 = F := ⟨_, rfl⟩
        rw [hF] at CF hFj hFl hF0 HFO hpl
        rw [HSQ0.out, ← str_bas44, show ((6 : Nat) : Int) = (6 : Int) from rfl] at CF
        have CF := Lib.hid CF
        have hF6 : F.length ≤ 6 := by omega
        have HFJ := Lib.hid hFj
        have HPL := Lib.hid hpl
        clear hF hq hFj hpl
        go_wp2_with fail
        (with_reducible refine CF.out.mono ?_)
        rintro e w6 ⟨c8, rfl, ho8, hb8⟩
        have hFp := List.length_pos_iff.2 hF0
        obtain ⟨g8, hg8⟩ : ∃ g8, g8 = w5.heap.size := ⟨_, rfl⟩
        rw [← hg8] at ho8 ⊢
        have hcap8 := own_cap ho8
        have E8 := PE0.keep hb8
        have hgl : g6 < g8 := by have := PE0.box.lt; omega
        have P8 : PZ w.heap.size g6 x y g8 F.length c8 F none 0 [] w6 ∨ True := .inr trivial
        have P8 : PZ w.heap.size g6 X Y g8 F.length c8 F none 0 [] w6 :=
          ⟨E8.res, E8.rf, E8.lt, E8.box, E8.bf, own_base ho8 (by omega), hgl, World.ownsRow_nil _ _ _ _⟩
        have BB := BB.trans (hb8.mono BB.size)
        clear CF E8 PE0 ho8 hb8 hg8
        go_wp2_with fail
        go_loopw [48] (fun i wr => ∃ k A6 c6, ∃ L : List Sq, k ≤ F.length ∧ i = .int .i64 k ∧ F.take k = L.map clq ∧ (∀ s ∈ L, Nn s) ∧ PZ w.heap.size g6 X Y g8 F.length c8 F A6 c6 L wr ∧ Below w.heap.size w wr) (fun i _ => F.length - (intOf i).toNat)
        case atStart => exact ⟨0, none, 0, [], Nat.zero_le _, rfl, rfl, by simp, P8, BB⟩
        case round =>
          obtain ⟨k, A6, c6, L, hk, rfl, hsq, hnn, hP, hbr⟩ := hrel
          clear P8 BB
          have hSr := hS.below hbr
          have hLk : L.length = k := by have := congrArg List.length hsq; rw [List.length_take, List.length_map] at this; omega
          by_cases hlt : k < F.length
          · obtain ⟨t, ht⟩ : ∃ t, F[k]? = some t := ⟨_, List.getElem?_eq_getElem hlt⟩
            have e0 := txs_at hP.parts (j := k) (t := t) ht
            have CT := pn_any t 46 (by decide) 3 (by omega) (by have := HPL.out t (List.mem_of_getElem? ht); omega) wr hSr
            rw [← str_bas46, show ((3 : Nat) : Int) = (3 : Int) from rfl] at CT
            have CT := Lib.hid CT
            have i1 : (0 : Int) ≤ (k : Int) := by omega
            have i2 : (k : Int) < (F.length : Int) := by omega
            have HSQ := Lib.hid hsq
            have HT := Lib.hid ht
            have HNN := Lib.hid hnn
            have hLT : L.length < 6 := by omega
            clear hsq ht hnn hLk
            go_wp2_with fail
            (with_reducible refine CT.out.mono ?_)
            rintro e w4 ⟨hb4, hv⟩
            have hP4 := hP.keep hb4
            have hb44 := hbr.trans (hb4.mono hbr.size)
            rcases hv with ⟨R, g4, hN, rfl, ho4⟩ | ⟨hN, rfl⟩
            · obtain ⟨a3, b3, c3, rfl⟩ : ∃ a3 b3 c3, R = [a3, b3, c3] := by
                match R, hN.1 with
                | [a3, b3, c3], _ => exact ⟨a3, b3, c3, rfl⟩
              have hk1 : L.length + 1 ≤ maxLen := by unfold maxLen; omega
              have hk2 : (L.length + 1) * 24 ≤ 140737488355328 := by omega
              have y0 : w4.cell? ⟨g4, 0, none⟩ = some (.int .i64 a3) := by rw [ho4.cellAt 0 (by omega)]; rfl
              have y1 : w4.cell? ⟨g4, 1, none⟩ = some (.int .i64 b3) := by rw [ho4.cellAt 1 (by omega)]; rfl
              have y2 : w4.cell? ⟨g4, 2, none⟩ = some (.int .i64 c3) := by rw [ho4.cellAt 2 (by omega)]; rfl
              have hlt4 := own_lt ho4
              have HS3 := Lib.hid (nums_clq hN)
              obtain ⟨i0, hi, hz0, hz1, hz2⟩ := info_parts infoCl
              have HO4 := Lib.hid ho4
              have HSL := Lib.hid (fun k hk => (hP.sq.lt k hk).2)
              clear CT ho4 hb4 hP hN
              go_wp2_with fail
              have HP4 := Lib.hid hP4
              have INV : ∀ V, Below w4.heap.size w4 V → V.cell? ⟨g6, 2, none⟩ = some (.slice A6 L.length c6) ∧ V.cell? ⟨g4, 0, none⟩ = some (.int .i64 a3) ∧ V.cell? ⟨g4, 1, none⟩ = some (.int .i64 b3) ∧ V.cell? ⟨g4, 2, none⟩ = some (.int .i64 c3) := fun V hb => ⟨(HP4.out.keep hb).box.c2, (hb.cell (p := ⟨g4, 0, none⟩) hlt4.2).trans y0, (hb.cell (p := ⟨g4, 1, none⟩) hlt4.2).trans y1, (hb.cell (p := ⟨g4, 2, none⟩) hlt4.2).trans y2⟩
              have hd4 : Below w4.heap.size w4 w4.drew := (Below.refl _ _).drew
              refine wp_region_top 14 (fun w' => w'.cell? ⟨g6, 2, none⟩ = some (.slice A6 L.length c6) ∧ w'.cell? ⟨g4, 0, none⟩ = some (.int .i64 a3) ∧ w'.cell? ⟨g4, 1, none⟩ = some (.int .i64 b3) ∧ w'.cell? ⟨g4, 2, none⟩ = some (.int .i64 c3)) (by kernel_rfl) (INV _ hd4) (fun hHeld => ?_)
              refine wpTop.take 0 (v := ?_) rfl (by kernel_rfl) (by kernel_rfl) (by kernel_rfl) (by kernel_rfl) (fun _ _ _ h => h) (Or.inl ⟨by rfl, ?_⟩) (by assumption) ?_
              rotate_left
              · intro w hSw; (try dsimp only at hSw); go_simp; try (with_reducible rfl)
              try simp only [Act.put, List.getElem_toArray, List.getElem_cons_zero, List.getElem_cons_succ, List.setIfInBounds_toArray, List.set_cons_zero, List.set_cons_succ]
              refine wpTop.take 1 (v := ?_) rfl (by kernel_rfl) (by kernel_rfl) (by kernel_rfl) (by kernel_rfl) (fun _ _ _ h => h) (Or.inl ⟨by rfl, ?_⟩) (by assumption) ?_
              rotate_left
              · intro w hSw; (try dsimp only at hSw); go_simp; try (with_reducible rfl)
              try simp only [Act.put, List.getElem_toArray, List.getElem_cons_zero, List.getElem_cons_succ, List.setIfInBounds_toArray, List.set_cons_zero, List.set_cons_succ]
              refine wpTop.take 2 (v := ?_) rfl (by kernel_rfl) (by kernel_rfl) (by kernel_rfl) (by kernel_rfl) (fun _ _ _ h => h) (Or.inl ⟨by rfl, ?_⟩) (by assumption) ?_
              rotate_left
              · intro w hSw; (try dsimp only at hSw); go_simp; try (with_reducible rfl)
              try simp only [Act.put, List.getElem_toArray, List.getElem_cons_zero, List.getElem_cons_succ, List.setIfInBounds_toArray, List.set_cons_zero, List.set_cons_succ]
              refine wpTop.take 3 (v := ?_) rfl (by kernel_rfl) (by kernel_rfl) (by kernel_rfl) (by kernel_rfl) (fun _ _ _ h => h) (Or.inl ⟨by rfl, ?_⟩) (by assumption) ?_
              rotate_left
              · intro w hSw; (try dsimp only at hSw); go_simp; try (with_reducible rfl)
              try simp only [Act.put, List.getElem_toArray, List.getElem_cons_zero, List.getElem_cons_succ, List.setIfInBounds_toArray, List.set_cons_zero, List.set_cons_succ]
              refine wpTop.take 4 (v := ?_) rfl (by kernel_rfl) (by kernel_rfl) (by kernel_rfl) (by kernel_rfl) (fun _ _ _ h => h) (Or.inl ⟨by rfl, ?_⟩) (by assumption) ?_
              rotate_left
              · intro w hSw; (try dsimp only at hSw); go_simp; try (with_reducible rfl)
              try simp only [Act.put, List.getElem_toArray, List.getElem_cons_zero, List.getElem_cons_succ, List.setIfInBounds_toArray, List.set_cons_zero, List.set_cons_succ]
              refine wpTop.take 5 (v := ?_) rfl (by kernel_rfl) (by kernel_rfl) (by kernel_rfl) (by kernel_rfl) (fun _ _ _ h => h) (Or.inl ⟨by rfl, ?_⟩) (by assumption) ?_
              rotate_left
              · intro w hSw; (try dsimp only at hSw); go_simp; try (with_reducible rfl)
              try simp only [Act.put, List.getElem_toArray, List.getElem_cons_zero, List.getElem_cons_succ, List.setIfInBounds_toArray, List.set_cons_zero, List.set_cons_succ]
              refine wpTop.take 6 (v := ?_) rfl (by kernel_rfl) (by kernel_rfl) (by kernel_rfl) (by kernel_rfl) (fun _ _ _ h => h) (Or.inl ⟨by rfl, ?_⟩) (by assumption) ?_
              rotate_left
              · intro w hSw; (try dsimp only at hSw); go_simp; try (with_reducible rfl)
              try simp only [Act.put, List.getElem_toArray, List.getElem_cons_zero, List.getElem_cons_succ, List.setIfInBounds_toArray, List.set_cons_zero, List.set_cons_succ]
              refine wpTop.take 7 (v := ?_) rfl (by kernel_rfl) (by kernel_rfl) (by kernel_rfl) (by kernel_rfl) (fun _ _ _ h => h) (Or.inl ⟨by rfl, ?_⟩) (by assumption) ?_
              rotate_left
              · intro w hSw; (try dsimp only at hSw); go_simp; try (with_reducible rfl)
              try simp only [Act.put, List.getElem_toArray, List.getElem_cons_zero, List.getElem_cons_succ, List.setIfInBounds_toArray, List.set_cons_zero, List.set_cons_succ]
              refine wpTop.take 8 (v := ?_) rfl (by kernel_rfl) (by kernel_rfl) (by kernel_rfl) (by kernel_rfl) (fun _ _ _ h => h) (Or.inl ⟨by rfl, ?_⟩) (by assumption) ?_
              rotate_left
              · intro w hSw; (try dsimp only at hSw); go_simp; try (with_reducible rfl)
              try simp only [Act.put, List.getElem_toArray, List.getElem_cons_zero, List.getElem_cons_succ, List.setIfInBounds_toArray, List.set_cons_zero, List.set_cons_succ]
              refine wpTop.take 9 (v := ?_) rfl (by kernel_rfl) (by kernel_rfl) (by kernel_rfl) (by kernel_rfl) (fun _ _ _ h => h) (Or.inl ⟨by rfl, ?_⟩) (by assumption) ?_
              rotate_left
              · intro w hSw; (try dsimp only at hSw); go_simp; try (with_reducible rfl)
              try simp only [Act.put, List.getElem_toArray, List.getElem_cons_zero, List.getElem_cons_succ, List.setIfInBounds_toArray, List.set_cons_zero, List.set_cons_succ]
              refine wpTop.take 10 (v := ?_) rfl (by kernel_rfl) (by kernel_rfl) (by kernel_rfl) (by kernel_rfl) (fun _ _ _ h => h) (Or.inl ⟨by rfl, ?_⟩) (by assumption) ?_
              rotate_left
              · intro w hSw; (try dsimp only at hSw); go_simp; try (with_reducible rfl)
              try simp only [Act.put, List.getElem_toArray, List.getElem_cons_zero, List.getElem_cons_succ, List.setIfInBounds_toArray, List.set_cons_zero, List.set_cons_succ]
              refine wpTop.take 11 (v := ?_) rfl (by kernel_rfl) (by kernel_rfl) (by kernel_rfl) (by kernel_rfl) (fun _ _ _ h => h) (Or.inl ⟨by rfl, ?_⟩) (by assumption) ?_
              rotate_left
              · intro w hSw; (try dsimp only at hSw); go_simp; try (with_reducible rfl)
              try simp only [Act.put, List.getElem_toArray, List.getElem_cons_zero, List.getElem_cons_succ, List.setIfInBounds_toArray, List.set_cons_zero, List.set_cons_succ]
              refine wpTop.one 12 rfl (by kernel_rfl) (fun K hK => ?_)
              go_simp
              refine hK.out _ _ (fun _ => INV _ (by first | exact hd4 | exact hd4.alloc hd4.size _)) (fun hH => ?_)
              clear hK K
              have hHeld := hH (by decide)
              clear hH
              try simp only [Act.put, List.getElem_toArray, List.getElem_cons_zero, List.getElem_cons_succ, List.setIfInBounds_toArray, List.set_cons_zero, List.set_cons_succ]
              refine wpTop.one 13 rfl (by kernel_rfl) (fun K hK => ?_)
              have hd5 : Below w4.heap.size w4 (w4.alloc (.cells #[.int .i64 a3, .int .i64 b3, .int .i64 c3] 122)).drew := ((Below.refl _ _).alloc (Nat.le_refl _) _).drew
              have P5 := HP4.out.keep hd5
              refine app_step rfl _ _ _ rfl (g8 + 1) 122 i0 (.agg #[.int .i64 0, .int .i64 0, .int .i64 0]) 3 24 Tryd.underlying63 hi hz0 hz1 hz2 rfl (by decide) (.slice A6 L.length c6) L.length (flat L) rfl P5.sq (some ⟨w4.heap.size, 0, none⟩) 1 1 [.int .i64 a3, .int .i64 b3, .int .i64 c3] rfl rfl (.inr ⟨_, rfl, new3 _ _ _ _ _⟩) (one3 _ _ _) hk1 hk2 (by have := (own_lt P5.parts).2; omega) ?_
              intro v' w6 hown6 hgrow hv6
              obtain ⟨A7, c7, rfl⟩ := own_val hown6
              have P6 := P5.push ⟨a3, b3, c3⟩ hgrow hown6
              have hne6 : (.slice A6 L.length c6 : Value).ownBlock ≠ some g6 := fun e => by have := (P5.sq.lt g6 e).1; omega
              have q2 := (P5.box.far hgrow hne6).c2
              have q3 := (hgrow.frozen_far ⟨g6, 2, none⟩ P5.box.lt (fun e => hne6 e.symm)).trans (P5.bf 2)
              have q4 := P5.box.lt
              have B5 := hb44.trans (hd5.mono hb44.size)
              have B6 := B5.grown hgrow B5.size (fun k hk => by have := P5.sq.lt k hk; omega)
              have B7 := B6.setCell (p := ⟨g6, 2, none⟩) (show w.heap.size ≤ g6 by omega) (.slice A7 (L.length + 1) c7)
              have far4 := own_far (own_keep HO4.out hd5) hgrow (fun k hk e => by have := HO4.out.lt k hk; have := HSL.out k e; omega)
              have y40 : w6.cell? ⟨g4, 0, none⟩ = some (.int .i64 a3) := by rw [far4.cellAt 0 (by omega)]; rfl
              have y41 : w6.cell? ⟨g4, 1, none⟩ = some (.int .i64 b3) := by rw [far4.cellAt 1 (by omega)]; rfl
              have y42 : w6.cell? ⟨g4, 2, none⟩ = some (.int .i64 c3) := by rw [far4.cellAt 2 (by omega)]; rfl
              refine hK.out _ _ (fun _ => ⟨q2, y40, y41, y42⟩) (fun hH => ?_)
              clear hK K hH
              try simp only [Act.put, List.getElem_toArray, List.getElem_cons_zero, List.getElem_cons_succ, List.setIfInBounds_toArray, List.set_cons_zero, List.set_cons_succ]
              refine wpTop.one 14 rfl (by kernel_rfl) (fun K hK => ?_)
              go_simp
              refine hK.out _ _ (fun h => absurd h (by decide)) (fun hH => ?_)
              clear hK K hH
              try simp only [Act.put, List.getElem_toArray, List.getElem_cons_zero, List.getElem_cons_succ, List.setIfInBounds_toArray, List.set_cons_zero, List.set_cons_succ]
              refine wpTop.one 15 rfl (by kernel_rfl) (fun K hK => ?_)
              go_simp
              refine hK.out _ _ (fun h => absurd h (by decide)) (fun hH => ?_)
              clear hK K hH
              try simp only [Act.put, List.getElem_toArray, List.getElem_cons_zero, List.getElem_cons_succ, List.setIfInBounds_toArray, List.set_cons_zero, List.set_cons_succ]
              refine wpTop.all (by kernel_rfl) ?_ _
              go_wp2_with fail
              go_roundw
              case rel =>
                  exact ⟨k + 1, A7, c7, L ++ [⟨a3, b3, c3⟩], by omega, by go_num, by rw [List.take_succ, HT.out, HSQ.out, List.map_append]; simp [HS3.out.1], fun s hs => by
                    rcases List.mem_append.1 hs with h | h
                    · exact HNN.out s h
                    · obtain rfl := List.mem_singleton.1 h
                      exact HS3.out.2, P6, B7⟩
              case measure => simp [intOf]; omega
            · have hno : ∀ W H L, GoodP W H L → ptx W.toNat H.toNat L ≠ l := fun W H M hG e => by
                obtain ⟨_, _, e3⟩ := HSAME.out W H M hG e
                have e5 := HFO.out M e3 hG.2.1
                have e6 := HT.out
                rw [e5, List.getElem?_map] at e6
                cases hm : M[k]? with
                | none => rw [hm] at e6; cases e6
                | some s =>
                  rw [hm] at e6
                  have e7 : clq s = t := Option.some.inj e6
                  exact hN _ (e7 ▸ clq_nums (goodP_nn hG s (List.mem_of_getElem? hm)))
              have HN := Lib.hid hno
              obtain ⟨kl, k0, k1, k2⟩ := id hP4.res
              have f0 := hP4.rf 0
              have f1 := hP4.rf 1
              have f2 := hP4.rf 2
              clear hno CT hb4 hP hP4 hN
              go_wp2_with fail
              (try simp only [Exit.inBlock, Exit.then])
              refine bodyPost_ret (ret_pzI (Bx.set3 ⟨kl, k0, k1, k2⟩ 0 0 none 0 0) rfl rfl) rfl ?_
              exact ⟨below_set3 hb44 _ _ _, .inr ⟨HN.out, rfl⟩⟩
          · obtain rfl : k = F.length := by omega
            clear hLk
            rw [List.take_of_length_le (Nat.le_refl _)] at hsq
            have hE := hP.pe
            have hqj : q = Lib.join (L.map clq) [44] := by rw [← HFJ.out, hsq]
            have hLn : L.length ≤ 2000000 := by have := congrArg List.length hsq; rw [List.length_map] at this; omega
            have HYS := Lib.hid (HTXT.out L hqj)
            have hNO : ¬ GoodP X Y L → ∀ W H M, GoodP W H M → ptx W.toNat H.toNat M ≠ l := fun hG W H M hG' e => by
              obtain ⟨e1, e2, e3⟩ := HSAME.out W H M hG' e
              have e5 := HFO.out M e3 hG'.2.1
              have e6 := clqs_inj hnn (goodP_nn hG') (hsq.symm.trans e5)
              rw [e1, e2, ← e6] at hG'
              exact hG hG'
            have HNO := Lib.hid hNO
            have i2 : ¬ (F.length : Int) < (F.length : Int) := by omega
            clear hsq hqj hNO hnn hP
            have CP := Lib.hid (pon_any X Y A6 L.length c6 L wr rfl (by omega) (cls_of_own hE.sq))
            obtain ⟨p0, p1, p2, p3⟩ := id hE.box
            obtain ⟨q0, q1, q2, q3⟩ := id hE.res
            have f0 := hE.rf 0
            have f1 := hE.rf 1
            have f2 := hE.rf 2
            have HP := Lib.hid hE
            clear hE
            go_wp2_with fail
            (with_reducible refine CP.out.mono ?_)
            rintro e w8 ⟨hb8, hv⟩
            have P8 := HP.out.keep hb8
            have B8 := hbr.trans (hb8.mono hbr.size)
            clear p0 p1 p2 p3 q0 q1 q2 q3 f0 f1 f2
            obtain ⟨q0, q1, q2, q3⟩ := id P8.res
            have f0 := P8.rf 0
            have f1 := P8.rf 1
            have f2 := P8.rf 2
            have HP8 := Lib.hid P8
            rcases hv with ⟨hG, rfl⟩ | ⟨hG, rfl⟩
            · have HGG := Lib.hid hG
              have HTX := Lib.hid (HYS.out)
              clear hb8 P8 CP hG
              go_wp2_with fail
              (try simp only [Exit.inBlock, Exit.then])
              refine bodyPost_ret (ret_pzI (Bx.set3 ⟨q0, q1, q2, q3⟩ X Y A6 L.length c6) rfl rfl) rfl ?_
              exact ⟨below_set3 B8 _ _ _, .inl ⟨X, Y, A6, c6, L, rfl, own_base (ownsRow_setCell_below (ownsRow_setCell_below (ownsRow_setCell_below HP8.out.sq (by show w.heap.size < g6 + 1; omega) _) (by show w.heap.size < g6 + 1; omega) _) (by show w.heap.size < g6 + 1; omega) _) (by omega), HGG.out, HTX.out⟩⟩
            · have HN := Lib.hid (HNO.out hG)
              clear hb8 P8 CP hG
              go_wp2_with fail
              (try simp only [Exit.inBlock, Exit.then])
              refine bodyPost_ret (ret_pzI (Bx.set3 ⟨q0, q1, q2, q3⟩ 0 0 none 0 0) rfl rfl) rfl ?_
              exact ⟨below_set3 B8 _ _ _, .inr ⟨HN.out, rfl⟩⟩
    · have hno : ∀ W H L, GoodP W H L → ptx W.toNat H.toNat L ≠ l := fun W H M hG e => by
        obtain ⟨e1, _⟩ := HPT.out W H M e
        have hz := hG.size
        exact hN _ (e1 ▸ head_nums (by omega) (by omega))
      have HN := Lib.hid hno
      obtain ⟨kl, k0, k1, k2⟩ := id K3
      have f0 := F3 0
      have f1 := F3 1
      have f2 := F3 2
      clear hno CH hb3 K2 B2 F3 F2 hN
      go_wp2_with fail
      (try simp only [Exit.inBlock, Exit.then])
      refine bodyPost_ret (ret_pzI (Bx.set3 ⟨kl, k0, k1, k2⟩ 0 0 none 0 0) rfl rfl) rfl ?_
      exact ⟨below_set3 B3 _ _ _, .inr ⟨HN.out, rfl⟩⟩
  · have HN := Lib.hid (fun (W H : Int) (L : List Sq) (_ : GoodP W H L) => (show ptx W.toNat H.toNat L ≠ l from fun e => hno (e ▸ ptx_has)))
    have CH := CN.out l hl w2 hS2
    rw [← str_bas120, show ((2 : Nat) : Int) = (2 : Int) from rfl, HSS.out] at CH
    have CH := Lib.hid CH
    obtain ⟨SE, hSE⟩ : ∃ SE, bas [] = SE := ⟨_, rfl⟩
    rw [hSE]
    clear hno hSE
    go_wp2_with fail
    (with_reducible refine CH.out.mono ?_)
    rintro e w3 ⟨hb3, hv⟩
    have B3 := B2.trans (hb3.mono B2.size)
    have K3 := K2.next hb3
    have F3 : ∀ o, w3.frozen? ⟨w.heap.size, o, none⟩ = false := fun o => (hb3.frozen (p := ⟨w.heap.size, o, none⟩) K2.lt).trans (F2 o)
    obtain ⟨kl, k0, k1, k2⟩ := id K3
    have f0 := F3 0
    have f1 := F3 1
    have f2 := F3 2
    clear CH hb3 K2 F3 F2
    rcases hv with ⟨R, g3, hN, rfl, ho3⟩ | ⟨hN, rfl⟩
    · clear hN ho3
      go_wp2_with fail
      (try simp only [Exit.inBlock, Exit.then])
      refine bodyPost_ret (ret_pzI (Bx.set3 ⟨kl, k0, k1, k2⟩ 0 0 none 0 0) rfl rfl) rfl ?_
      exact ⟨below_set3 B3 _ _ _, .inr ⟨HN.out, rfl⟩⟩
    · clear hN
      go_wp2_with fail
      (try simp only [Exit.inBlock, Exit.then])
      refine bodyPost_ret (ret_pzI (Bx.set3 ⟨kl, k0, k1, k2⟩ 0 0 none 0 0) rfl rfl) rfl ?_
      exact ⟨below_set3 B3 _ _ _, .inr ⟨HN.out, rfl⟩⟩
end Go.Proofs.YtbkfenhiaedlgaaDoor
