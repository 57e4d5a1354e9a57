/- The program's reading of a net's text. -/
import Derived.Test.YtbkfenhiaedlgaaDoorNpPc
import Derived.Test.YtbkfenhiaedlgaaDoorNetQ
import Derived.Test.YtbkfenhiaedlgaaDoorPn
import Derived.Test.YtbkfenhiaedlgaaDoorShelfC
import Derived.Lib.SmallJoins
set_option linter.all false
namespace Go.Proofs.YtbkfenhiaedlgaaDoor
open Go.RowKit

theorem cut_casesN (b : UInt8) (l : List UInt8) : (∃ h q, Lib.cut l [b] = (h, q, true) ∧ l = h ++ b :: q ∧ b ∉ h) ∨ (Lib.cut l [b] = (l, [], false) ∧ b ∉ l) := by
  rcases ix_cases b l with ⟨h, hn⟩ | ⟨i, h, hi, e, hn⟩
  · refine .inr ⟨?_, hn⟩
    unfold Lib.cut
    rw [h, if_neg (by omega)]
  · refine .inl ⟨l.take i, l.drop (i + 1), ?_, e, hn⟩
    unfold Lib.cut
    rw [h, if_pos (by omega)]; rfl
theorem cut_anyN (l : List UInt8) (b : UInt8) (hl : l.length ≤ 1048576) (w : World) (hM : MaxOk w) :
    Calls Tryd.prog 78 #[.string (bas l), .string (bas [b])] w fun e w' => Below w.heap.size w w' ∧
      ((∃ h q, e = .returned (.tuple #[.string (bas h), .string (bas q), .bool true]) ∧ l = h ++ b :: q ∧ b ∉ h) ∨ (e = .returned (.tuple #[.string (bas l), .string (bas []), .bool false]) ∧ b ∉ l)) := by
  obtain ⟨m, hm⟩ := hM
  have hsz := bas_size l
  refine (Tryd.strings_Cut (bas l) (bas [b]) m w (by omega) hm).mono ?_
  rintro e w' ⟨rfl, n, rfl⟩
  rw [bas_data, bas_data]
  refine ⟨⟨rfl, rfl, rfl, Nat.le_refl _, fun _ _ => rfl⟩, ?_⟩
  rcases cut_casesN b l with ⟨h, q, e, h1, h2⟩ | ⟨e, h2⟩
  · rw [e]; exact .inl ⟨h, q, rfl, h1, h2⟩
  · rw [e]; exact .inr ⟨rfl, h2⟩
theorem cutF_any (l : List UInt8) (b : UInt8) (hl : l.length ≤ 1048576) (w : World) (hM : MaxOk w) :
    Calls Tryd.prog 78 #[.string (bas l), .string (bas [b])] w fun e w' => Below w.heap.size w w' ∧
      ∃ h q fd, e = .returned (.tuple #[.string (bas h), .string (bas q), .bool fd]) ∧ ((l = h ++ b :: q ∧ b ∉ h) ∨ (q = [] ∧ h = l ∧ b ∉ l)) :=
  (cut_anyN l b hl w hM).mono fun e w' ⟨hb, h⟩ => ⟨hb, by
    rcases h with ⟨h, q, rfl, h1, h2⟩ | ⟨rfl, h2⟩
    · exact ⟨h, q, true, rfl, .inl ⟨h1, h2⟩⟩
    · exact ⟨l, [], false, rfl, .inr ⟨rfl, rfl, h2⟩⟩⟩
def NnW (s : Wi) : Prop := (0 ≤ s.a ∧ s.a < 9223372036854775808) ∧ (0 ≤ s.b ∧ s.b < 9223372036854775808)
theorem wiq_nums {s : Wi} (h : NnW s) : Nums 45 2 (wiq s) [s.a.toNat, s.b.toNat] := by
  obtain ⟨h1, h2⟩ := h
  exact ⟨rfl, by simp [Lib.join, List.intercalate, wiq], by intro r hr; simp at hr; rcases hr with rfl | rfl <;> omega⟩
theorem nums_wiq {t : List UInt8} {x y : Nat} (h : Nums 45 2 t [x, y]) : t = wiq ⟨x, y⟩ ∧ NnW ⟨x, y⟩ := by
  have hx := h.2.2 x (by simp)
  have hy := h.2.2 y (by simp)
  refine ⟨by rw [h.2.1]; simp [Lib.join, List.intercalate, wiq], ⟨by show (0 : Int) ≤ (x : Int); omega, by show (x : Int) < _; omega⟩, ⟨by show (0 : Int) ≤ (y : Int); omega, by show (y : Int) < _; omega⟩⟩
theorem wiq_inj {s q : Wi} (hs : NnW s) (hq : NnW q) (h : wiq s = wiq q) : s = q := by
  have h1 := wiq_nums hs
  rw [h] at h1
  have e := nums_uniq (b := 45) (by decide) (by omega) h1 (wiq_nums hq)
  obtain ⟨a1, a2⟩ := hs
  obtain ⟨b1, b2⟩ := hq
  have e1 := congrArg (fun l => l[0]?) e
  have e2 := congrArg (fun l => l[1]?) e
  simp at e1 e2
  cases s; cases q
  simp at *
  omega
theorem wiqs_inj : ∀ {L M : List Wi}, (∀ s ∈ L, NnW s) → (∀ s ∈ M, NnW s) → L.map wiq = M.map wiq → L = M
  | [], [], _, _, _ => rfl
  | [], _ :: _, _, _, h => by simp at h
  | _ :: _, [], _, _, h => by simp at h
  | s :: L, q :: M, hL, hM, h => by
    simp only [List.map_cons, List.cons.injEq] at h
    rw [wiq_inj (hL s (by simp)) (hM q (by simp)) h.1, wiqs_inj (fun r hr => hL r (List.mem_cons_of_mem _ hr)) (fun r hr => hM r (List.mem_cons_of_mem _ hr)) h.2]
theorem netG_nn {N : Int} {L : List Wi} (hG : NetG N L) : ∀ s ∈ L, NnW s := fun s hs => by
  obtain ⟨h1, h2⟩ := netG_sm hG s hs
  exact ⟨by omega, by omega⟩
theorem one_nums {n : Nat} (h : n < 9223372036854775808) : Nums 58 1 (dec n) [n] := ⟨rfl, by simp [Lib.join_one], by intro r hr; simp at hr; omega⟩
theorem nums_one {t : List UInt8} {n : Nat} (h : Nums 58 1 t [n]) : t = dec n := by rw [h.2.1]; simp [Lib.join_one]
theorem ntx_parts {N : Int} {L : List Wi} {h q : List UInt8} (e : ntx N.toNat L = h ++ 58 :: q) (hn : (58 : UInt8) ∉ h) : h = dec N.toNat ∧ q = Lib.join (L.map wiq) [44] := by
  have e2 := congrArg (spl 58) e
  unfold ntx at e2
  rw [spl_at _ _ _ (dec_no (by decide)), spl_no _ _ (wis_no (by decide) (by decide) (by decide) L), spl_at _ _ _ hn] at e2
  have e3 := (List.cons.inj e2).2
  refine ⟨(List.cons.inj e2).1.symm, ?_⟩
  have e4 := join_spl 58 q
  rw [← e3, Lib.join_one] at e4
  exact e4.symm
theorem ntx_has {N : Int} {L : List Wi} : (58 : UInt8) ∈ ntx N.toNat L := by unfold ntx; simp
theorem wis_fields {L : List Wi} (hn : L.length ≤ 30) (h0 : L ≠ []) : Lib.splitN (Lib.join (L.map wiq) [44]) [44] 30 = L.map wiq :=
  splitN_of 44 (by simpa using h0) (fun x hx => by obtain ⟨s, _, rfl⟩ := List.mem_map.1 hx; exact wiq_no (by decide) (by decide) s) (by simpa using hn)
theorem strn58 : (⟨#[58]⟩ : ByteArray) = bas [58] := rfl
theorem strn45 : (⟨#[45]⟩ : ByteArray) = bas [45] := rfl
theorem strn44 : (⟨#[44]⟩ : ByteArray) = bas [44] := rfl
/-- What ParseNet returns. -/
def RetNy (w : World) (l : List UInt8) (e : Ending) (w' : World) : Prop :=
  Below w.heap.size w w' ∧ ((∃ W A c, ∃ L : List Wi, e = .returned (.tuple #[.agg #[.int .i64 W, .slice A L.length c], .bool true]) ∧ w'.ownsRow w.heap.size 110 2 (.slice A L.length c) L.length (flatW L) ∧ NetG W L ∧ ntx W.toNat L = l) ∨
    ((∀ W L, NetG W L → ntx W.toNat L ≠ l) ∧ e = .returned (.tuple #[.agg #[.int .i64 0, .slice none 0 0], .bool false])))
set_option maxRecDepth 100000 in
theorem ret_npI {tmps : Array Value} {w : World} {B : Nat} {W : Int} {A : Option Addr} {n c : Nat} {b : Bool} (K : Nx B w W A n c) (hp : tmps.getD 2 undef = .pointer (some ⟨B, 0, none⟩)) (hu : tmps.getD 3 undef = .bool b) :
    (results Tryd.f31 tmps).run Tryd.prog w = .ok (.tuple #[.agg #[.int .i64 W, .slice A n c], .bool b]) w := by
  have c0 := K.c0
  have c1 := K.c1
  rw [results_cell_tmp rfl, hp, hu]
  simp [go_sem, c0, c1]
set_option maxRecDepth 100000 in
theorem ret_non {tmps : Array Value} {w : World} {B : Nat} {W : Int} {A : Option Addr} {n c : Nat} {b : Bool} (K : Nx B w W A n c) (hp : tmps.getD 2 undef = .pointer (some ⟨B, 0, none⟩)) (hu : tmps.getD 3 undef = .bool b) :
    (results Tryd.f79 tmps).run Tryd.prog w = .ok (.tuple #[.agg #[.int .i64 W, .slice A n c], .bool b]) w := by
  have c0 := K.c0
  have c1 := K.c1
  rw [results_cell_tmp rfl, hp, hu]
  simp [go_sem, c0, c1]
set_option maxRecDepth 100000 in
set_option maxHeartbeats 2000000 in
theorem non_any (X : Int) (A : Option Addr) (n c : Nat) (L : List Wi) (w : World) (hl : L.length = n) (hn : n ≤ 9223372036854775807) (hL : WisAt w w.heap.size A L) (hwf : wfI X) :
    Calls Tryd.prog 79 #[.agg #[.int .i64 X, .slice A n c]] w fun e w' => Below w.heap.size w w' ∧ ((NetG X L ∧ e = .returned (.tuple #[.agg #[.int .i64 X, .slice A n c], .bool true])) ∨ (¬ NetG X L ∧ e = .returned (.tuple #[.agg #[.int .i64 0, .slice none 0 0], .bool false]))) := by
  obtain ⟨B, hB⟩ : ∃ B, B = w.heap.size := ⟨_, rfl⟩
  obtain ⟨U1, hU1⟩ : ∃ U1, U1 = w.alloc (.cells #[.int .i64 X, .slice A n c] 51) := ⟨_, rfl⟩
  obtain ⟨w2, hw2⟩ : ∃ w2, w2 = U1.alloc (.cells #[.int .i64 0, .slice none 0 0] 51) := ⟨_, rfl⟩
  have s1 : U1.heap.size = B + 1 := by rw [hU1, hB]; simp
  have b1 : Below w.heap.size w U1 := by rw [hU1]; exact (Below.refl _ _).alloc (Nat.le_refl _) _
  have b2 : Below U1.heap.size U1 w2 := by rw [hw2]; exact (Below.refl _ _).alloc (Nat.le_refl _) _
  have hb2 := b1.trans (b2.mono b1.size)
  have Ka : Nx B w2 X A n c := by have h := Nx.start w X A n c 51; rw [← hU1, ← hB] at h; exact h.next b2
  have Kr : Nx (B + 1) w2 0 none 0 0 := by have h := Nx.start U1 0 none 0 0 51; rw [← hw2, s1] at h; exact h
  have Fr : ∀ o, w2.frozen? ⟨B + 1, o, none⟩ = false := fun o => by rw [hw2, ← s1]; simp
  have hL2 := (hL.below hb2).mono hb2.size
  have C := isNet_any X A n c L w2 hl hL2 hwf hn
  have hle : w.heap.size ≤ B + 1 := by omega
  have HW := Lib.hid (show w2 = (w.alloc (.cells #[.int .i64 X, .slice A n c] 51)).alloc (.cells #[.int .i64 0, .slice none 0 0] 51) by rw [hw2, hU1])
  have HB := Lib.hid hB
  clear hU1 hw2 s1 b1 b2 hB hL hL2
  by_cases hG : NetG X L
  · have C := Lib.hid (callB_yes C hG)
    have HG := Lib.hid hG
    clear hG
    obtain ⟨l0, a0, a1⟩ := id Ka
    go_enter Tryd.func79, Tryd.ntmps79
    go_upto_region 1 with fail
    rw [← HW.out, ← HB.out]
    go_wp2_with fail
    (with_reducible refine C.out.mono ?_)
    rintro e w3 ⟨rfl, hb3⟩
    have Ka := Ka.next hb3
    have Kr3 := Kr.next hb3
    have Fr3 : ∀ o, w3.frozen? ⟨B + 1, o, none⟩ = false := fun o => (hb3.frozen (p := ⟨B + 1, o, none⟩) Kr.lt).trans (Fr o)
    have B3 := hb2.trans (hb3.mono hb2.size)
    clear l0 a0 a1 C hb3 Kr
    obtain ⟨_, a0, a1⟩ := id Ka
    obtain ⟨l1, r0, r1⟩ := id Kr3
    have f0 := Fr3 0
    have f1 := Fr3 1
    go_wp2_with fail
    (try simp only [Exit.inBlock, Exit.then])
    refine bodyPost_ret (ret_non (Nx.set2 ⟨l1, r0, r1⟩ X A n c) rfl rfl) rfl ?_
    exact ⟨(B3.setCell (p := ⟨B + 1, 0, none⟩) hle _).setCell (p := ⟨B + 1, 1, none⟩) hle _, .inl ⟨HG.out, rfl⟩⟩
  · have C := Lib.hid (callB_no C hG)
    have HG := Lib.hid hG
    clear hG
    obtain ⟨l0, a0, a1⟩ := id Ka
    go_enter Tryd.func79, Tryd.ntmps79
    go_upto_region 1 with fail
    rw [← HW.out, ← HB.out]
    go_wp2_with fail
    (with_reducible refine C.out.mono ?_)
    rintro e w3 ⟨rfl, hb3⟩
    have Kr3 := Kr.next hb3
    have Fr3 : ∀ o, w3.frozen? ⟨B + 1, o, none⟩ = false := fun o => (hb3.frozen (p := ⟨B + 1, o, none⟩) Kr.lt).trans (Fr o)
    have B3 := hb2.trans (hb3.mono hb2.size)
    clear l0 a0 a1 C hb3 Kr
    obtain ⟨l1, r0, r1⟩ := id Kr3
    have f0 := Fr3 0
    have f1 := Fr3 1
    go_wp2_with fail
    (try simp only [Exit.inBlock, Exit.then])
    refine bodyPost_ret (ret_non (Nx.set2 ⟨l1, r0, r1⟩ 0 none 0 0) rfl rfl) rfl ?_
    exact ⟨(B3.setCell (p := ⟨B + 1, 0, none⟩) hle _).setCell (p := ⟨B + 1, 1, none⟩) hle _, .inr ⟨HG.out, rfl⟩⟩
set_option maxRecDepth 100000 in
set_option maxHeartbeats 8000000 in
theorem implNp_any (l : List UInt8) (hl : l.length ≤ 1048576) (w : World) (hS : StrOk w) : Calls Tryd.prog 31 #[.string (bas l)] w (RetNy w l) := by
  have B0 : Below w.heap.size w (w.alloc (.cells #[.int .i64 0, .slice none 0 0] 51)) := (Below.refl _ _).alloc (Nat.le_refl _) _
  have K0 := Nx.start w 0 none 0 0 51
  have C1 := cutF_any l 58 hl (w.alloc (.cells #[.int .i64 0, .slice none 0 0] 51)) (hS.below B0).max
  obtain ⟨SS, hSS⟩ : ∃ SS, bas l = SS := ⟨_, rfl⟩
  rw [hSS, ← strn58] at C1
  rw [hSS]
  have HC1 := Lib.hid C1
  clear C1 hSS
  go_enter Tryd.func31, Tryd.ntmps31
  go_wp2_with fail
  (with_reducible refine HC1.out.mono ?_)
  rintro e w2 ⟨hb2, hh, q, fd, rfl, hfd⟩
  have K2 := K0.next hb2
  have F2 : ∀ o, w2.frozen? ⟨w.heap.size, o, none⟩ = false := fun o => (hb2.frozen (p := ⟨w.heap.size, o, none⟩) K0.lt).trans (by simp)
  have B2 := B0.trans (hb2.mono B0.size)
  have hS2 := hS.below B2
  clear HC1 K0 B0 hb2
  have hhl : hh.length ≤ 1048576 ∧ q.length ≤ 1048576 := by
    rcases hfd with ⟨h1, _⟩ | ⟨h1, h2, _⟩
    · have := congrArg List.length h1; simp at this; omega
    · rw [h1, h2]; exact ⟨hl, by simp⟩
  have CH := pn_any hh 58 (by decide) 1 (by omega) hhl.1 w2 hS2
  rw [← strn58, show ((1 : Nat) : Int) = (1 : Int) from rfl] at CH
  have CH := Lib.hid CH
  have HPT := Lib.hid (fun (N : Int) (L : List Wi) (e : ntx N.toNat L = l) => (show hh = dec N.toNat ∧ q = Lib.join (L.map wiq) [44] by
    rcases hfd with ⟨h1, h2⟩ | ⟨_, _, h3⟩
    · exact ntx_parts (by rw [e]; exact h1) h2
    · exact absurd (e ▸ ntx_has) h3))
  have HTX := Lib.hid (fun (n : Nat) (L : List Wi) (h0 : L ≠ []) (e1 : hh = dec n) (e2 : q = Lib.join (L.map wiq) [44]) => (show ntx ((n : Nat) : Int).toNat L = l by
    rcases hfd with ⟨h1, _⟩ | ⟨h1, _, _⟩
    · rw [h1, e1, e2]; rfl
    · rw [h1] at e2; exact absurd (wis_nil e2.symm) h0))
  obtain ⟨SQ, hSQ⟩ : ∃ SQ, bas q = SQ := ⟨_, rfl⟩
  obtain ⟨SH, hSH⟩ : ∃ SH, bas hh = SH := ⟨_, rfl⟩
  rw [hSQ, hSH]
  rw [hSH] at CH
  have HSQ0 := Lib.hid hSQ
  obtain ⟨hhl1, hql⟩ := hhl
  clear hSH hSQ hfd
  go_wp2_with fail
  (with_reducible refine CH.out.mono ?_)
  rintro e w3 ⟨hb3, hv⟩
  have B3 := B2.trans (hb3.mono B2.size)
  have K3 := K2.next hb3
  have F3 : ∀ o, w3.frozen? ⟨w.heap.size, o, none⟩ = false := fun o => (hb3.frozen (p := ⟨w.heap.size, o, none⟩) K2.lt).trans (F2 o)
  have hS3 := hS2.below hb3
  rcases hv with ⟨R, g3, hN, rfl, ho3⟩ | ⟨hN, rfl⟩
  · obtain ⟨x, rfl⟩ : ∃ x, R = [x] := by
      match R, hN.1 with
      | [x], _ => exact ⟨x, rfl⟩
    have d0 : w3.cell? ⟨g3, 0, none⟩ = some (.int .i64 x) := by rw [ho3.cellAt 0 (by omega)]; rfl
    have hlt3 := own_lt ho3
    have HNM := Lib.hid hN
    have hx63 := hN.2.2 x (by simp)
    have hhd := nums_one hN
    have HHD := Lib.hid hhd
    have CF := splitN_any q 44 30 hql (by omega) (w3.alloc (.cells #[.int .i64 x, .slice none 0 0] 51)) (hS3.below ((Below.refl _ _).alloc (Nat.le_refl _) _)).max
    have hFj := splitN_join 44 30 q
    have hFl := splitN_len 44 (n := 30) (by omega) q
    have hF0 := splitN_ne 44 30 q
    have HFO := Lib.hid (fun (M : List Wi) (e : q = Lib.join (M.map wiq) [44]) (h : M.length ≤ 30) (h0 : M ≠ []) => (show Lib.splitN q [44] 30 = M.map wiq by
      have h1 := wis_fields h h0
      rw [← e] at h1; exact h1))
    have hpl := piece_len 44 (xs := Lib.splitN q [44] 30)
    rw [hFj] at hpl
    obtain ⟨F, hF⟩ : ∃ F, Lib.splitN q [44] 30 = F := ⟨_, rfl⟩
    rw [hF] at CF hFj hFl hF0 HFO hpl
    rw [HSQ0.out, ← strn44, show ((30 : Nat) : Int) = (30 : Int) from rfl] at CF
    have CF := Lib.hid CF
    have hF6 : F.length ≤ 30 := by omega
    have HFJ := Lib.hid hFj
    have HPL := Lib.hid hpl
    have hbA : Below w3.heap.size w3 (w3.alloc (.cells #[.int .i64 x, .slice none 0 0] 51)) := (Below.refl _ _).alloc (Nat.le_refl _) _
    have PE0 : PF w.heap.size w3.heap.size x none 0 [] (w3.alloc (.cells #[.int .i64 x, .slice none 0 0] 51)) :=
      ⟨K3.next hbA, fun o => (hbA.frozen (p := ⟨w.heap.size, o, none⟩) K3.lt).trans (F3 o), K3.lt, ⟨by simp, by simp, by simp⟩, fun o => by simp, World.ownsRow_nil _ _ _ _⟩
    have BB := B3.trans (hbA.mono B3.size)
    obtain ⟨kl, k0, k1⟩ := id K3
    clear CH ho3 hb3 K2 B2 F2 hN hF hFj hpl hhd
    go_wp2_with fail
    (with_reducible refine CF.out.mono ?_)
    rintro e w6 ⟨c8, rfl, ho8, hb8⟩
    have hFp := List.length_pos_iff.2 hF0
    obtain ⟨g8, hg8⟩ : ∃ g8, g8 = (w3.alloc (.cells #[.int .i64 x, .slice none 0 0] 51)).heap.size := ⟨_, rfl⟩
    obtain ⟨g6, hg6⟩ : ∃ g6, g6 = w3.heap.size := ⟨_, rfl⟩
    rw [← hg8] at ho8 ⊢
    have hcap8 := own_cap ho8
    have E8 := PE0.keep hb8
    have hgl : g6 < g8 := by rw [hg8, hg6]; simp
    obtain ⟨X, hX⟩ : ∃ X : Int, X = x := ⟨_, rfl⟩
    have P8 : PY w.heap.size g6 X g8 F.length c8 F none 0 [] w6 := by
      rw [← hg6, ← hX] at E8
      exact ⟨E8.res, E8.rf, E8.lt, E8.box, E8.bf, own_base ho8 (by omega), hgl, World.ownsRow_nil _ _ _ _⟩
    rw [← hg6]
    have hlg := P8.lt
    have hX0 : 0 ≤ X ∧ X < 9223372036854775808 := by omega
    have HX := Lib.hid hX
    have BB := BB.trans (hb8.mono BB.size)
    clear CF E8 PE0 ho8 hb8 hg8 hg6 hX hbA B3 K3 F3 kl k0 k1 d0 hlt3
    go_wp2_with fail
    go_loopw [35] (fun i wr => ∃ k A6 c6, ∃ L : List Wi, k ≤ F.length ∧ i = .int .i64 k ∧ F.take k = L.map wiq ∧ (∀ s ∈ L, NnW s) ∧ PY w.heap.size g6 X g8 F.length c8 F A6 c6 L wr ∧ Below w.heap.size w wr) (fun i _ => F.length - (intOf i).toNat)
    case atStart => exact ⟨0, none, 0, [], Nat.zero_le _, rfl, rfl, by simp, P8, BB⟩
    case round =>
      obtain ⟨k, A6, c6, L, hk, rfl, hsq, hnn, hP, hbr⟩ := hrel
      clear P8 BB
      have hSr := hS.below hbr
      have hLk : L.length = k := by have := congrArg List.length hsq; rw [List.length_take, List.length_map] at this; omega
      by_cases hlt : k < F.length
      · obtain ⟨t, ht⟩ : ∃ t, F[k]? = some t := ⟨_, List.getElem?_eq_getElem hlt⟩
        have e0 := txs_at hP.parts (j := k) (t := t) ht
        have CT := pn_any t 45 (by decide) 2 (by omega) (by have := HPL.out t (List.mem_of_getElem? ht); omega) wr hSr
        rw [← strn45, show ((2 : Nat) : Int) = (2 : Int) from rfl] at CT
        have CT := Lib.hid CT
        have i1 : (0 : Int) ≤ (k : Int) := by omega
        have i2 : (k : Int) < (F.length : Int) := by omega
        have HSQ := Lib.hid hsq
        have HT := Lib.hid ht
        have HNN := Lib.hid hnn
        have hLT : L.length < 30 := by omega
        clear hsq ht hnn hLk
        go_wp2_with fail
        (with_reducible refine CT.out.mono ?_)
        rintro e w4 ⟨hb4, hv⟩
        have hP4 := hP.keep hb4
        have hb44 := hbr.trans (hb4.mono hbr.size)
        rcases hv with ⟨R, g4, hN, rfl, ho4⟩ | ⟨hN, rfl⟩
        · obtain ⟨a3, b3, rfl⟩ : ∃ a3 b3, R = [a3, b3] := by
            match R, hN.1 with
            | [a3, b3], _ => exact ⟨a3, b3, rfl⟩
          have hk1 : L.length + 1 ≤ maxLen := by unfold maxLen; omega
          have hk2 : (L.length + 1) * 16 ≤ 140737488355328 := by omega
          have y0 : w4.cell? ⟨g4, 0, none⟩ = some (.int .i64 a3) := by rw [ho4.cellAt 0 (by omega)]; rfl
          have y1 : w4.cell? ⟨g4, 1, none⟩ = some (.int .i64 b3) := by rw [ho4.cellAt 1 (by omega)]; rfl
          have hlt4 := own_lt ho4
          have HS3 := Lib.hid (nums_wiq hN)
          obtain ⟨i0, hi, hz0, hz1, hz2⟩ := info_parts infoWi
          have HO4 := Lib.hid ho4
          have HSL := Lib.hid (fun k hk => (hP.sq.lt k hk).2)
          clear CT ho4 hb4 hP hN
          go_wp2_with fail
          have HP4 := Lib.hid hP4
          have INV : ∀ V, Below w4.heap.size w4 V → V.cell? ⟨g6, 1, none⟩ = some (.slice A6 L.length c6) ∧ V.cell? ⟨g4, 0, none⟩ = some (.int .i64 a3) ∧ V.cell? ⟨g4, 1, none⟩ = some (.int .i64 b3) := fun V hb => ⟨(HP4.out.keep hb).box.c1, (hb.cell (p := ⟨g4, 0, none⟩) hlt4.2).trans y0, (hb.cell (p := ⟨g4, 1, none⟩) hlt4.2).trans y1⟩
          have hd4 : Below w4.heap.size w4 w4.drew := (Below.refl _ _).drew
          refine wp_region_top 11 (fun w' => w'.cell? ⟨g6, 1, none⟩ = some (.slice A6 L.length c6) ∧ w'.cell? ⟨g4, 0, none⟩ = some (.int .i64 a3) ∧ w'.cell? ⟨g4, 1, none⟩ = some (.int .i64 b3)) (by kernel_rfl) (INV _ hd4) (fun hHeld => ?_)
          refine wpTop.take 0 (v := ?_) rfl (by kernel_rfl) (by kernel_rfl) (by kernel_rfl) (by kernel_rfl) (fun _ _ _ h => h) (Or.inl ⟨by rfl, ?_⟩) (by assumption) ?_
          rotate_left
          · intro w hSw; (try dsimp only at hSw); go_simp; try (with_reducible rfl)
          try simp only [Act.put, List.getElem_toArray, List.getElem_cons_zero, List.getElem_cons_succ, List.setIfInBounds_toArray, List.set_cons_zero, List.set_cons_succ]
          refine wpTop.take 1 (v := ?_) rfl (by kernel_rfl) (by kernel_rfl) (by kernel_rfl) (by kernel_rfl) (fun _ _ _ h => h) (Or.inl ⟨by rfl, ?_⟩) (by assumption) ?_
          rotate_left
          · intro w hSw; (try dsimp only at hSw); go_simp; try (with_reducible rfl)
          try simp only [Act.put, List.getElem_toArray, List.getElem_cons_zero, List.getElem_cons_succ, List.setIfInBounds_toArray, List.set_cons_zero, List.set_cons_succ]
          refine wpTop.take 2 (v := ?_) rfl (by kernel_rfl) (by kernel_rfl) (by kernel_rfl) (by kernel_rfl) (fun _ _ _ h => h) (Or.inl ⟨by rfl, ?_⟩) (by assumption) ?_
          rotate_left
          · intro w hSw; (try dsimp only at hSw); go_simp; try (with_reducible rfl)
          try simp only [Act.put, List.getElem_toArray, List.getElem_cons_zero, List.getElem_cons_succ, List.setIfInBounds_toArray, List.set_cons_zero, List.set_cons_succ]
          refine wpTop.take 3 (v := ?_) rfl (by kernel_rfl) (by kernel_rfl) (by kernel_rfl) (by kernel_rfl) (fun _ _ _ h => h) (Or.inl ⟨by rfl, ?_⟩) (by assumption) ?_
          rotate_left
          · intro w hSw; (try dsimp only at hSw); go_simp; try (with_reducible rfl)
          try simp only [Act.put, List.getElem_toArray, List.getElem_cons_zero, List.getElem_cons_succ, List.setIfInBounds_toArray, List.set_cons_zero, List.set_cons_succ]
          refine wpTop.take 4 (v := ?_) rfl (by kernel_rfl) (by kernel_rfl) (by kernel_rfl) (by kernel_rfl) (fun _ _ _ h => h) (Or.inl ⟨by rfl, ?_⟩) (by assumption) ?_
          rotate_left
          · intro w hSw; (try dsimp only at hSw); go_simp; try (with_reducible rfl)
          try simp only [Act.put, List.getElem_toArray, List.getElem_cons_zero, List.getElem_cons_succ, List.setIfInBounds_toArray, List.set_cons_zero, List.set_cons_succ]
          refine wpTop.take 5 (v := ?_) rfl (by kernel_rfl) (by kernel_rfl) (by kernel_rfl) (by kernel_rfl) (fun _ _ _ h => h) (Or.inl ⟨by rfl, ?_⟩) (by assumption) ?_
          rotate_left
          · intro w hSw; (try dsimp only at hSw); go_simp; try (with_reducible rfl)
          try simp only [Act.put, List.getElem_toArray, List.getElem_cons_zero, List.getElem_cons_succ, List.setIfInBounds_toArray, List.set_cons_zero, List.set_cons_succ]
          refine wpTop.take 6 (v := ?_) rfl (by kernel_rfl) (by kernel_rfl) (by kernel_rfl) (by kernel_rfl) (fun _ _ _ h => h) (Or.inl ⟨by rfl, ?_⟩) (by assumption) ?_
          rotate_left
          · intro w hSw; (try dsimp only at hSw); go_simp; try (with_reducible rfl)
          try simp only [Act.put, List.getElem_toArray, List.getElem_cons_zero, List.getElem_cons_succ, List.setIfInBounds_toArray, List.set_cons_zero, List.set_cons_succ]
          refine wpTop.take 7 (v := ?_) rfl (by kernel_rfl) (by kernel_rfl) (by kernel_rfl) (by kernel_rfl) (fun _ _ _ h => h) (Or.inl ⟨by rfl, ?_⟩) (by assumption) ?_
          rotate_left
          · intro w hSw; (try dsimp only at hSw); go_simp; try (with_reducible rfl)
          try simp only [Act.put, List.getElem_toArray, List.getElem_cons_zero, List.getElem_cons_succ, List.setIfInBounds_toArray, List.set_cons_zero, List.set_cons_succ]
          refine wpTop.take 8 (v := ?_) rfl (by kernel_rfl) (by kernel_rfl) (by kernel_rfl) (by kernel_rfl) (fun _ _ _ h => h) (Or.inl ⟨by rfl, ?_⟩) (by assumption) ?_
          rotate_left
          · intro w hSw; (try dsimp only at hSw); go_simp; try (with_reducible rfl)
          try simp only [Act.put, List.getElem_toArray, List.getElem_cons_zero, List.getElem_cons_succ, List.setIfInBounds_toArray, List.set_cons_zero, List.set_cons_succ]
          refine wpTop.one 9 rfl (by kernel_rfl) (fun K hK => ?_)
          go_simp
          refine hK.out _ _ (fun _ => INV _ (by first | exact hd4 | exact hd4.alloc hd4.size _)) (fun hH => ?_)
          clear hK K
          have hHeld := hH (by decide)
          clear hH
          try simp only [Act.put, List.getElem_toArray, List.getElem_cons_zero, List.getElem_cons_succ, List.setIfInBounds_toArray, List.set_cons_zero, List.set_cons_succ]
          refine wpTop.one 10 rfl (by kernel_rfl) (fun K hK => ?_)
          have hd5 : Below w4.heap.size w4 (w4.alloc (.cells #[.int .i64 a3, .int .i64 b3] 110)).drew := ((Below.refl _ _).alloc (Nat.le_refl _) _).drew
          have P5 := HP4.out.keep hd5
          refine app_step rfl _ _ _ rfl (g8 + 1) 110 i0 (.agg #[.int .i64 0, .int .i64 0]) 2 16 Tryd.underlying49 hi hz0 hz1 hz2 rfl (by decide) (.slice A6 L.length c6) L.length (flatW L) rfl P5.sq (some ⟨w4.heap.size, 0, none⟩) 1 1 [.int .i64 a3, .int .i64 b3] rfl rfl (.inr ⟨_, rfl, new2n _ _ _ _⟩) (one2n _ _) hk1 hk2 (by have := (own_lt P5.parts).2; omega) ?_
          intro v' w6 hown6 hgrow hv6
          obtain ⟨A7, c7, rfl⟩ := own_val hown6
          have P6 := P5.push ⟨a3, b3⟩ hgrow hown6
          have hne6 : (.slice A6 L.length c6 : Value).ownBlock ≠ some g6 := fun e => by have := (P5.sq.lt g6 e).1; omega
          have q2 := (P5.box.far hgrow hne6).c1
          have q3 := (hgrow.frozen_far ⟨g6, 1, none⟩ P5.box.lt (fun e => hne6 e.symm)).trans (P5.bf 1)
          have q4 := P5.box.lt
          have B5 := hb44.trans (hd5.mono hb44.size)
          have B6 := B5.grown hgrow B5.size (fun k hk => by have := P5.sq.lt k hk; omega)
          have B7 := B6.setCell (p := ⟨g6, 1, none⟩) (show w.heap.size ≤ g6 by omega) (.slice A7 (L.length + 1) c7)
          have far4 := own_far (own_keep HO4.out hd5) hgrow (fun k hk e => by have := HO4.out.lt k hk; have := HSL.out k e; omega)
          have y40 : w6.cell? ⟨g4, 0, none⟩ = some (.int .i64 a3) := by rw [far4.cellAt 0 (by omega)]; rfl
          have y41 : w6.cell? ⟨g4, 1, none⟩ = some (.int .i64 b3) := by rw [far4.cellAt 1 (by omega)]; rfl
          refine hK.out _ _ (fun _ => ⟨q2, y40, y41⟩) (fun hH => ?_)
          clear hK K hH
          try simp only [Act.put, List.getElem_toArray, List.getElem_cons_zero, List.getElem_cons_succ, List.setIfInBounds_toArray, List.set_cons_zero, List.set_cons_succ]
          refine wpTop.one 11 rfl (by kernel_rfl) (fun K hK => ?_)
          go_simp
          refine hK.out _ _ (fun h => absurd h (by decide)) (fun hH => ?_)
          clear hK K hH
          try simp only [Act.put, List.getElem_toArray, List.getElem_cons_zero, List.getElem_cons_succ, List.setIfInBounds_toArray, List.set_cons_zero, List.set_cons_succ]
          refine wpTop.one 12 rfl (by kernel_rfl) (fun K hK => ?_)
          go_simp
          refine hK.out _ _ (fun h => absurd h (by decide)) (fun hH => ?_)
          clear hK K hH
          try simp only [Act.put, List.getElem_toArray, List.getElem_cons_zero, List.getElem_cons_succ, List.setIfInBounds_toArray, List.set_cons_zero, List.set_cons_succ]
          refine wpTop.all (by kernel_rfl) ?_ _
          go_wp2_with fail
          go_roundw
          case rel =>
              exact ⟨k + 1, A7, c7, L ++ [⟨a3, b3⟩], by omega, by go_num, by rw [List.take_succ, HT.out, HSQ.out, List.map_append]; simp [HS3.out.1], fun s hs => by
                rcases List.mem_append.1 hs with h | h
                · exact HNN.out s h
                · obtain rfl := List.mem_singleton.1 h
                  exact HS3.out.2, P6, B7⟩
          case measure => simp [intOf]; omega
        · have hno : ∀ N L, NetG N L → ntx N.toNat L ≠ l := fun N M hG e => by
            obtain ⟨_, e3⟩ := HPT.out N M e
            have h0 : M ≠ [] := List.length_pos_iff.1 (by have := hG.2.1; omega)
            have e5 := HFO.out M e3 hG.2.1.2 h0
            have e6 := HT.out
            rw [e5, List.getElem?_map] at e6
            cases hm : M[k]? with
            | none => rw [hm] at e6; cases e6
            | some s =>
              rw [hm] at e6
              have e7 : wiq s = t := Option.some.inj e6
              exact hN _ (e7 ▸ wiq_nums (netG_nn hG s (List.mem_of_getElem? hm)))
          have HN := Lib.hid hno
          obtain ⟨kl, k0, k1⟩ := id hP4.res
          have f0 := hP4.rf 0
          have f1 := hP4.rf 1
          clear hno CT hb4 hP hP4 hN
          go_wp2_with fail
          (try simp only [Exit.inBlock, Exit.then])
          refine bodyPost_ret (ret_npI (Nx.set2 ⟨kl, k0, k1⟩ 0 none 0 0) rfl rfl) rfl ?_
          exact ⟨below_set2 hb44 _ _, .inr ⟨HN.out, rfl⟩⟩
      · obtain rfl : k = F.length := by omega
        clear hLk
        rw [List.take_of_length_le (Nat.le_refl _)] at hsq
        have hE := hP.pf
        have hqj : q = Lib.join (L.map wiq) [44] := by rw [← HFJ.out, hsq]
        have hL0 : L ≠ [] := fun e => by rw [e] at hsq; exact hF0 hsq
        have hLn : L.length ≤ 1100 := by have := congrArg List.length hsq; rw [List.length_map] at this; omega
        have HYS := Lib.hid (show ntx X.toNat L = l by rw [HX.out]; exact HTX.out x L hL0 HHD.out hqj)
        have hNO : ¬ NetG X L → ∀ N M, NetG N M → ntx N.toNat M ≠ l := fun hG N M hG' e => by
          obtain ⟨e1, e3⟩ := HPT.out N M e
          have hN' := hG'.1
          have h0 : M ≠ [] := List.length_pos_iff.1 (by have := hG'.2.1; omega)
          have e5 := HFO.out M e3 hG'.2.1.2 h0
          have e6 := wiqs_inj hnn (netG_nn hG') (hsq.symm.trans e5)
          have hn1 := one_nums (n := N.toNat) (by omega)
          rw [← e1] at hn1
          have e4 := nums_uniq (by decide) (by omega) hn1 HNM.out
          simp only [List.cons.injEq] at e4
          have eN : N = X := by rw [HX.out]; omega
          rw [eN, ← e6] at hG'
          exact hG hG'
        have HNO := Lib.hid hNO
        have i2 : ¬ (F.length : Int) < (F.length : Int) := by omega
        have CP := Lib.hid (non_any X A6 L.length c6 L wr rfl (by omega) (wis_of_own hE.sq) (by unfold wfI; omega))
        obtain ⟨p0, p1, p2⟩ := id hE.box
        obtain ⟨q0, q1, q2⟩ := id hE.res
        have f0 := hE.rf 0
        have f1 := hE.rf 1
        have HP := Lib.hid hE
        clear hsq hqj hNO hnn hP hE
        go_wp2_with fail
        (with_reducible refine CP.out.mono ?_)
        rintro e w8 ⟨hb8, hv⟩
        have P8 := HP.out.keep hb8
        have B8 := hbr.trans (hb8.mono hbr.size)
        clear p0 p1 p2 q0 q1 q2 f0 f1
        obtain ⟨q0, q1, q2⟩ := id P8.res
        have f0 := P8.rf 0
        have f1 := P8.rf 1
        have HP8 := Lib.hid P8
        rcases hv with ⟨hG, rfl⟩ | ⟨hG, rfl⟩
        · have HGG := Lib.hid hG
          clear hb8 P8 CP hG
          go_wp2_with fail
          (try simp only [Exit.inBlock, Exit.then])
          refine bodyPost_ret (ret_npI (Nx.set2 ⟨q0, q1, q2⟩ X A6 L.length c6) rfl rfl) rfl ?_
          exact ⟨below_set2 B8 _ _, .inl ⟨X, A6, c6, L, rfl, own_base (ownsRow_setCell_below (ownsRow_setCell_below HP8.out.sq (by show w.heap.size < g6 + 1; omega) _) (by show w.heap.size < g6 + 1; omega) _) (by omega), HGG.out, HYS.out⟩⟩
        · have HN := Lib.hid (HNO.out hG)
          clear hb8 P8 CP hG
          go_wp2_with fail
          (try simp only [Exit.inBlock, Exit.then])
          refine bodyPost_ret (ret_npI (Nx.set2 ⟨q0, q1, q2⟩ 0 none 0 0) rfl rfl) rfl ?_
          exact ⟨below_set2 B8 _ _, .inr ⟨HN.out, rfl⟩⟩
  · have hno : ∀ N L, NetG N L → ntx N.toNat L ≠ l := fun N M hG e => by
      obtain ⟨e1, _⟩ := HPT.out N M e
      have hN' := hG.1
      exact hN _ (e1 ▸ one_nums (by omega))
    have HN := Lib.hid hno
    obtain ⟨kl, k0, k1⟩ := id K3
    have f0 := F3 0
    have f1 := F3 1
    clear hno CH hb3 K2 B2 F3 F2 hN
    go_wp2_with fail
    (try simp only [Exit.inBlock, Exit.then])
    refine bodyPost_ret (ret_npI (Nx.set2 ⟨kl, k0, k1⟩ 0 none 0 0) rfl rfl) rfl ?_
    exact ⟨below_set2 B3 _ _, .inr ⟨HN.out, rfl⟩⟩
end Go.Proofs.YtbkfenhiaedlgaaDoor
