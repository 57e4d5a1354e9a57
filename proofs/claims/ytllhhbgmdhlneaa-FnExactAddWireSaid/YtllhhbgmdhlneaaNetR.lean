/- Nets told from the other end: the program's and the model's. -/
import Derived.Test.YtllhhbgmdhlneaaNetL
import Derived.Test.YtllhhbgmdhlneaaFill
import Derived.Maps.RangeWalk
namespace Go.Proofs.Ytllhhbgmdhlneaa
open Go.RowKit

noncomputable def netX (N : Int) (L : List Wi) (X : Int) : Int := if dc (NetG N L) then X else 0
noncomputable def ifNet (N : Int) (L R : List Wi) : List Wi := if dc (NetG N L) then R else []
theorem netX_yes {N X : Int} {L : List Wi} (h : NetG N L) : netX N L X = X := by simp [netX, dc_true h]
theorem netX_no {N X : Int} {L : List Wi} (h : ¬ NetG N L) : netX N L X = 0 := by simp [netX, dc_false h]
theorem ifNet_yes {N : Int} {L R : List Wi} (h : NetG N L) : ifNet N L R = R := by simp [ifNet, dc_true h]
theorem ifNet_no {N : Int} {L R : List Wi} (h : ¬ NetG N L) : ifNet N L R = [] := by simp [ifNet, dc_false h]
/-- The memory of a function from a net to a net: its argument's box at block B, its result's behind it. -/
structure NR (B : Nat) (w0 wr : World) (N : Int) (A : Option Addr) (n c : Nat) : Prop where
  bel : Below B w0 wr
  box : Nx B wr N A n c
  res : Nx (B + 1) wr 0 none 0 0
  fz : ∀ o, wr.frozen? ⟨B + 1, o, none⟩ = false
theorem NR.start (w : World) (N : Int) (A : Option Addr) (n c : Nat) : NR w.heap.size w ((w.alloc (.cells #[.int .i64 N, .slice A n c] 43)).alloc (.cells #[.int .i64 0, .slice none 0 0] 43)) N A n c := by
  refine ⟨((Below.refl _ _).alloc (Nat.le_refl _) _).alloc (by simp) _, (Nx.start w N A n c _).next ((Below.refl _ _).alloc (Nat.le_refl _) _), ?_, fun o => World.frozen?_alloc_at _ _ _ _ (by simp)⟩
  have := Nx.start (w.alloc (.cells #[.int .i64 N, .slice A n c] 43)) 0 none 0 0 43
  simpa using this
theorem NR.keep {B : Nat} {w0 wr w' : World} {N : Int} {A : Option Addr} {n c : Nat} (h : NR B w0 wr N A n c) (hb : Below wr.heap.size wr w') : NR B w0 w' N A n c :=
  ⟨h.bel.trans (hb.mono (Nat.le_of_lt h.box.lt)), h.box.next hb, h.res.next hb, fun o => (hb.frozen (p := ⟨B + 1, o, none⟩) h.res.lt).trans (h.fz o)⟩
theorem NR.far {B : Nat} {w0 wr w' : World} {N : Int} {A : Option Addr} {n c : Nat} {row : Option Nat} (h : NR B w0 wr N A n c) (hg : wr.grownBy w' row) (hr : ∀ k, row = some k → B + 1 < k) : NR B w0 w' N A n c :=
  ⟨h.bel.grown hg (Nat.le_of_lt h.box.lt) (fun k hk => by have := hr k hk; omega), h.box.far hg (fun e => by have := hr _ e; omega), h.res.far hg (fun e => by have := hr _ e; omega),
    fun o => (hg.frozen_far ⟨B + 1, o, none⟩ h.res.lt (fun e => by have := hr _ e.symm; simp at this)).trans (h.fz o)⟩
def backW (N : Int) (s : Wi) : Wi := ⟨N - 1 - s.b, N - 1 - s.a⟩
def backL (N : Int) (L : List Wi) : List Wi := L.map (backW N)
theorem backL_len (N : Int) (L : List Wi) : (backL N L).length = L.length := by simp [backL]
theorem backL_take (N : Int) (L : List Wi) (k : Nat) (s : Wi) (h : L[k]? = some s) : backL N (L.take (k + 1)) = backL N (L.take k) ++ [backW N s] := by
  unfold backL
  rw [List.take_add_one, h, List.map_append]
  rfl

set_option maxRecDepth 100000 in
set_option maxHeartbeats 4000000 in
theorem implBack_any (N : Int) (A : Option Addr) (n c : Nat) (L : List Wi) (w : World) (hl : L.length = n) (hn9 : n ≤ 9223372036854775807) (hL : WisAt w w.heap.size A L) (hN : wfI N) :
    Calls Try.prog 41 #[.agg #[.int .i64 N, .slice A n c]] w (RetNet w (netX N L N) (ifNet N L (backL N L)) (dc (NetG N L))) := by
  subst hl
  obtain ⟨W1, hW1⟩ : ∃ W1, W1 = (w.alloc (.cells #[.int .i64 N, .slice A L.length c] 43)).alloc (.cells #[.int .i64 0, .slice none 0 0] 43) := ⟨_, rfl⟩
  have Z1 : NR w.heap.size w W1 N A L.length c := by rw [hW1]; exact NR.start w N A L.length c
  have hL1 := hL.below Z1.bel
  by_cases hG : NetG N L
  · rw [netX_yes hG, ifNet_yes hG, dc_true hG]
    obtain ⟨i0, hi, hz0, hz1, hz2⟩ := info_parts infoWi
    have hN1 := hG.1
    have h30 := hG.2.1.2
    have hok := hG.2.2.1
    go_enter Try.func41, Try.ntmps41
    go_wp2_with fail
    rw [← hW1]
    clear hW1
    refine (callB_yes (isNet_any N A _ c L _ rfl (hL1.mono Z1.bel.size) hN hn9) hG).mono ?_
    rintro e w2 ⟨rfl, hb2⟩
    have Z2 := Z1.keep hb2
    have HOK := Lib.hid hok
    have hwz : w.heap.size + 2 ≤ w2.heap.size := Z2.res.lt
    clear Z1 hL1 hb2 hG hok
    obtain ⟨hz, n0, n1⟩ := id Z2.box
    obtain ⟨B, hB⟩ : ∃ B, w.heap.size = B := ⟨_, rfl⟩
    rw [hB] at Z2 n0 n1 hL hz hwz
    go_wp2_with (at_make; refine wpList_make_full _ rfl _ _ 41 rfl (B + 2) 47 i0 (.agg #[.int .i64 0, .int .i64 0]) 2 Try.underlying41 hi hz0 hz1 .i64 .i64 L.length L.length L.length rfl rfl rfl rfl (by rw [hz2]; omega) (by unfold maxLen; omega) hwz ?_; intro w3 hown hgrow; have n0 := hgrow.cell n0 (by simp); have n1 := hgrow.cell n1 (by simp))
    have Z3 := Z2.far hgrow (fun k hk => by cases hk)
    obtain ⟨g, hg⟩ : ∃ g, w2.heap.size = g := ⟨_, rfl⟩
    have hgB : B + 1 < g := by rw [← hg]; exact Z2.res.lt
    rw [hg] at hown ⊢
    clear hgrow n0 n1 hi hz0 hz1 hz2 Z2 hz hg hwz
    obtain ⟨hz, n0, n1⟩ := id Z3.box
    go_wp2_with fail
    go_loopw [22] (fun i wr => ∃ k : Nat, k ≤ L.length ∧ i = .int .i64 k ∧ NR B w wr N A L.length c ∧ ∃ xs, wr.ownsRow (B + 2) 47 2 (.slice (some ⟨g, 0, none⟩) L.length L.length) L.length xs ∧ xs.take (k * 2) = flatW (backL N (L.take k))) (fun i _ => L.length - (intOf i).toNat)
    case atStart => exact ⟨0, Nat.zero_le _, rfl, Z3, _, hown, by simp [flatW, backL]⟩
    case round =>
      obtain ⟨k, hk, rfl, Zr, xs, hown1, htake⟩ := hrel
      have HT := Lib.hid htake
      have hx := hown1.1
      clear htake hown Z3 hz n0 n1
      obtain ⟨hz, n0, n1⟩ := id Zr.box
      by_cases hlt : k < L.length
      · obtain ⟨s, hs⟩ : ∃ s, L[k]? = some s := ⟨_, List.getElem?_eq_getElem hlt⟩
        obtain ⟨b, off, rfl, hbb, c0, c1⟩ := (hL.below Zr.bel) k s hs
        have hso := HOK.out s (List.mem_of_getElem? hs)
        have hst := backL_take N L k s hs
        obtain ⟨x, y⟩ := s
        obtain ⟨-, h1, h2, h3, h4⟩ := hso
        simp only at c0 c1 h1 h2 h3 h4
        have k0 : (0 : Int) ≤ (k : Int) := by omega
        have k1 : (k : Int) < (L.length : Int) := by omega
        have HS := Lib.hid hst
        clear hs hst hL
        have hgz := (own_lt hown1).2
        obtain ⟨u0, e0⟩ := own_some hown1 (j := k * 2) (by omega)
        obtain ⟨u1, e1⟩ := own_some hown1 (j := k * 2 + 1) (by omega)
        have f0 := hown1.frozenAt (k * 2)
        have f1 := hown1.frozenAt (k * 2 + 1)
        have R0 := hown1.stored (k * 2) (.int .i64 (N - 1 - y))
        have R1 := R0.1.stored (k * 2 + 1) (.int .i64 (N - 1 - x))
        have Z7 := (Zr.far R0.2 (fun k hk => by simp [Value.ownBlock] at hk; omega)).far R1.2 (fun k hk => by simp [Value.ownBlock] at hk; omega)
        have HZ := Lib.hid (And.intro (Z7.keep ((Below.refl _ _).alloc (Nat.le_refl _) (.cells #[.int .i64 x, .int .i64 y] 47))) (R1.1.alloc (.cells #[.int .i64 x, .int .i64 y] 47)))
        clear Z7 R0 R1 hown1 Zr
        go_wp2_with fail
        go_roundw
        case rel => exact ⟨k + 1, by omega, by go_num, HZ.out.1, _, HZ.out.2, by rw [take_set2 _ _ _ _ (by omega), HT.out, HS.out, flatW_app]; rfl⟩
        case measure => simp [intOf]; omega
      · obtain rfl : k = L.length := by omega
        rw [List.take_of_length_le (by omega), List.take_of_length_le (Nat.le_refl _)] at HT
        obtain ⟨_, r0, r1⟩ := id Zr.res
        have t0 := Zr.fz 0
        have t1 := Zr.fz 1
        have hB2 := Zr.bel
        have ex := HT.out
        subst ex
        clear HT hL
        go_wp2_with fail
        refine bodyPost_ret (v := .tuple #[.agg #[.int .i64 N, .slice (some ⟨g, 0, none⟩) L.length L.length], .bool true]) (by simp [results, Try.results41, go_sem, r0, r1]) rfl ?_
        have hgl := own_lt hown1
        have R := ownsRow_setCell_below (ownsRow_setCell_below hown1 (a := ⟨B + 1, 0, none⟩) (by simp) (.int .i64 N)) (a := ⟨B + 1, 1, none⟩) (by simp) (.slice (some ⟨g, 0, none⟩) L.length L.length)
        exact RetNet.mk (backL_len N L).symm (by rw [hB]; exact own_base R (by omega)) (by rw [hB]; exact (hB2.setCell (p := ⟨B + 1, 0, none⟩) (Nat.le_succ _) _).setCell (p := ⟨B + 1, 1, none⟩) (Nat.le_succ _) _)
  · rw [netX_no hG, ifNet_no hG, dc_false hG]
    go_enter Try.func41, Try.ntmps41
    go_wp2_with fail
    rw [← hW1]
    clear hW1
    refine (callB_no (isNet_any N A _ c L _ rfl (hL1.mono Z1.bel.size) hN hn9) hG).mono ?_
    rintro e w2 ⟨rfl, hb2⟩
    have Z2 := Z1.keep hb2
    obtain ⟨_, r0, r1⟩ := id Z2.res
    have t0 := Z2.fz 0
    have t1 := Z2.fz 1
    have hB2 := Z2.bel
    clear Z1 hL1
    go_wp2_with fail
    refine bodyPost_ret (v := .tuple #[.agg #[.int .i64 0, .slice none 0 0], .bool false]) (by simp [results, Try.results41, go_sem, r0, r1]) rfl ?_
    exact RetNet.mk rfl (World.ownsRow_nil _ _ _ _) ((hB2.setCell (p := ⟨w.heap.size + 1, 0, none⟩) (Nat.le_succ _) _).setCell (p := ⟨w.heap.size + 1, 1, none⟩) (Nat.le_succ _) _)


/-- The memory of the model's BackNet: beside it a net that grows, boxed at block g. -/
structure NO (B g : Nat) (w0 wr : World) (N : Int) (A : Option Addr) (n c : Nat) (A' : Option Addr) (k c' : Nat) (R : List Wi) : Prop where
  z : NR B w0 wr N A n c
  gb : B + 1 < g
  ob : Nx g wr N A' k c'
  fo : ∀ o, wr.frozen? ⟨g, o, none⟩ = false
  own : wr.ownsRow (g + 1) 47 2 (.slice A' k c') k (flatW R)
theorem NO.keep {B g : Nat} {w0 wr w' : World} {N : Int} {A A' : Option Addr} {n c k c' : Nat} {R : List Wi} (h : NO B g w0 wr N A n c A' k c' R) (hb : Below wr.heap.size wr w') : NO B g w0 w' N A n c A' k c' R :=
  ⟨h.z.keep hb, h.gb, h.ob.next hb, fun o => (hb.frozen (p := ⟨g, o, none⟩) h.ob.lt).trans (h.fo o), own_keep h.own hb⟩
theorem NO.push {B g : Nat} {w0 wr w6 : World} {N : Int} {A A' A6 : Option Addr} {n c k c' c6 : Nat} {R : List Wi} {q : Wi} (h : NO B g w0 wr N A n c A' k c' R) (hg : wr.grownBy w6 (Value.slice A' k c').ownBlock)
    (ho : w6.ownsRow (g + 1) 47 2 (.slice A6 (k + 1) c6) (k + 1) (flatW R ++ [.int .i64 q.a, .int .i64 q.b])) : NO B g w0 (w6.setCell ⟨g, 1, none⟩ (.slice A6 (k + 1) c6)) N A n c A6 (k + 1) c6 (R ++ [q]) := by
  have hgb := h.gb
  have hbl : ∀ j, (Value.slice A' k c').ownBlock = some j → g < j := fun j hj => (h.own.lt j hj).1
  have z6 := h.z.far hg (fun j hj => by have := hbl j hj; omega)
  have hn : (Value.slice A' k c').ownBlock ≠ some g := fun e => by have := hbl g e; omega
  have o6 := h.ob.far hg hn
  have f6 : ∀ o, w6.frozen? ⟨g, o, none⟩ = false := fun o => (hg.frozen_far ⟨g, o, none⟩ h.ob.lt (fun e => hn e.symm)).trans (h.fo o)
  have hput := put_grown w6 ⟨g, 1, none⟩ (.slice A6 (k + 1) c6)
  refine ⟨z6.far hput (fun j hj => by simp at hj; omega), hgb, ⟨?_, ?_, ?_⟩, fun o => ?_, ?_⟩
  · have := o6.lt; simpa using this
  · simp [go_sem, o6.c0]
  · simp [go_sem, o6.c1]
  · rw [show (w6.setCell ⟨g, 1, none⟩ (.slice A6 (k + 1) c6)).frozen? ⟨g, o, none⟩ = w6.frozen? ⟨g, o, none⟩ by simp [go_sem]]
    exact f6 o
  · rw [flatW_app]
    exact ownsRow_setCell_below ho (a := ⟨g, 1, none⟩) (by simp) _
theorem new2 (w : World) (a b : Value) (t : TypeId) : ∀ j u, [a, b][j]? = some u → (w.alloc (.cells #[a, b] t)).cell? ((⟨w.heap.size, 0, none⟩ : Addr).add j) = some u := by
  intro j u hj
  match j, hj with
  | 0, hj => simp at hj; subst hj; simp [Addr.add]
  | 1, hj => simp at hj; subst hj; simp [Addr.add]
theorem one2 (a b : Int) : ∀ u ∈ [Value.int .i64 a, Value.int .i64 b], u.oneCell' = true := by
  intro u hu; simp at hu; rcases hu with rfl | rfl <;> rfl

set_option maxRecDepth 100000 in
set_option maxHeartbeats 4000000 in
theorem specBack_any (N : Int) (A : Option Addr) (n c : Nat) (L : List Wi) (w : World) (hl : L.length = n) (hn : n ≤ 1048576) (hL : WisAt w w.heap.size A L) :
    Calls Try.prog 40 #[.agg #[.int .i64 N, .slice A n c]] w (RetNet w (netX N L N) (ifNet N L (backL N L)) (dc (NetG N L))) := by
  subst hl
  obtain ⟨W1, hW1⟩ : ∃ W1, W1 = (w.alloc (.cells #[.int .i64 N, .slice A L.length c] 43)).alloc (.cells #[.int .i64 0, .slice none 0 0] 43) := ⟨_, rfl⟩
  have Z1 : NR w.heap.size w W1 N A L.length c := by rw [hW1]; exact NR.start w N A L.length c
  have hL1 := hL.below Z1.bel
  by_cases hG : NetG N L
  · rw [netX_yes hG, ifNet_yes hG, dc_true hG]
    obtain ⟨i0, hi, hz0, hz1, hz2⟩ := info_parts infoWi
    have hN1 := hG.1
    have h30 := hG.2.1.2
    have hok := hG.2.2.1
    go_enter Try.func40, Try.ntmps40
    go_wp2_with fail
    rw [← hW1]
    clear hW1
    refine (callB_yes (neGood_any N A _ c L _ rfl hn (hL1.mono Z1.bel.size)) hG).mono ?_
    rintro e w2 ⟨rfl, hb2⟩
    have Z2 := Z1.keep hb2
    have HOK := Lib.hid hok
    clear Z1 hL1 hb2 hG hok
    obtain ⟨hz, n0, n1⟩ := id Z2.box
    obtain ⟨B, hB⟩ : ∃ B, w.heap.size = B := ⟨_, rfl⟩
    rw [hB] at Z2 n0 n1 hL hz
    go_wp2_with fail
    obtain ⟨w3, hw3⟩ : ∃ w3, w3 = w2.alloc (.cells #[.int .i64 N, .slice none 0 0] 43) := ⟨_, rfl⟩
    obtain ⟨g, hg⟩ : ∃ g, w2.heap.size = g := ⟨_, rfl⟩
    have Q3 : NO B g w w3 N A L.length c none 0 0 [] := by
      have hb3 : Below w2.heap.size w2 w3 := by rw [hw3]; exact (Below.refl _ _).alloc (Nat.le_refl _) _
      refine ⟨Z2.keep hb3, by rw [← hg]; exact Z2.res.lt, by rw [hw3, ← hg]; exact Nx.start _ _ _ _ _ _, fun o => by rw [hw3, ← hg]; exact World.frozen?_alloc_at _ _ _ _ rfl, World.ownsRow_nil _ _ _ _⟩
    rw [← hw3]
    rw [hg]
    clear hw3 Z2 n0 n1 hz hg
    obtain ⟨hz, n0, n1⟩ := id Q3.z.box
    go_wp2_with fail
    go_loopw [17] (fun i wr => ∃ (k : Nat) (A' : Option Addr) (c' : Nat), k ≤ L.length ∧ i = .int .i64 k ∧ NO B g w wr N A L.length c A' k c' (backL N (L.take k))) (fun i _ => L.length - (intOf i).toNat)
    case atStart => exact ⟨0, none, 0, Nat.zero_le _, rfl, by simpa [backL] using Q3⟩
    case round =>
      obtain ⟨k, A', c', hk, rfl, Q⟩ := hrel
      clear Q3 hz n0 n1
      obtain ⟨hz, n0, n1⟩ := id Q.z.box
      obtain ⟨hzg, m0, m1⟩ := id Q.ob
      by_cases hlt : k < L.length
      · obtain ⟨s, hs⟩ : ∃ s, L[k]? = some s := ⟨_, List.getElem?_eq_getElem hlt⟩
        obtain ⟨b, off, rfl, hbb, c0, c1⟩ := (hL.below Q.z.bel) k s hs
        have hso := HOK.out s (List.mem_of_getElem? hs)
        have hst := backL_take N L k s hs
        obtain ⟨x, y⟩ := s
        obtain ⟨-, h1, h2, h3, h4⟩ := hso
        simp only at c0 c1 h1 h2 h3 h4
        have k0 : (0 : Int) ≤ (k : Int) := by omega
        have k1 : (k : Int) < (L.length : Int) := by omega
        have HS := Lib.hid hst
        clear hs hst hL
        have fg := Q.fo 1
        have hsq := Q.own
        have hgb := Q.gb
        have hby1 : k + 1 ≤ maxLen := by unfold maxLen; omega
        have hby2 : (k + 1) * 16 ≤ 140737488355328 := by omega
        have hnb : some g ≠ (Value.slice A' k c').ownBlock := fun e => by have := (hsq.lt _ e.symm).1; omega
        go_wp2_with (at_builtin; refine app_list rfl _ _ _ rfl (g + 1) 47 i0 (.agg #[.int .i64 0, .int .i64 0]) 2 16 Try.underlying41 hi hz0 hz1 hz2 rfl (by decide) (.slice A' k c') k _ rfl ((hsq.alloc _).alloc _) (some ⟨wr.heap.size + 1, 0, none⟩) 1 1 [.int .i64 (N - 1 - y), .int .i64 (N - 1 - x)] rfl rfl (.inr ⟨_, rfl, by simpa using new2 (wr.alloc (.cells #[.int .i64 x, .int .i64 y] 47)) (.int .i64 (N - 1 - y)) (.int .i64 (N - 1 - x)) 47⟩) (one2 _ _) hby1 hby2 (by simp; omega) ?_; intro v' w6 hown6 hgrow hv6; obtain ⟨A6, c6, rfl⟩ := own_val hown6; have hbb2 : Below wr.heap.size wr ((wr.alloc (.cells #[.int .i64 x, .int .i64 y] 47)).alloc (.cells #[.int .i64 (N - 1 - y), .int .i64 (N - 1 - x)] 47)) := ((Below.refl _ _).alloc (Nat.le_refl _) _).alloc (by simp) _; have s2 := farC4 hbb2 hgrow (a := ⟨g, 1, none⟩) hzg hnb m1; have t2 := farF4 hbb2 hgrow (a := ⟨g, 1, none⟩) hzg hnb fg)
        have HP := Lib.hid ((Q.keep hbb2).push (q := backW N ⟨x, y⟩) hgrow hown6)
        clear hgrow hown6 hv6 s2 t2 hbb2
        go_roundw
        case rel => exact ⟨k + 1, A6, c6, by omega, by go_num, by rw [HS.out]; exact HP.out⟩
        case measure => simp [intOf]; omega
      · obtain rfl : k = L.length := by omega
        rw [List.take_of_length_le (Nat.le_refl _)] at Q
        obtain ⟨_, r0, r1⟩ := id Q.z.res
        have t0 := Q.z.fz 0
        have t1 := Q.z.fz 1
        have hB2 := Q.z.bel
        have hgb := Q.gb
        have hsq := Q.own
        clear hL
        go_wp2_with fail
        refine bodyPost_ret (v := .tuple #[.agg #[.int .i64 N, .slice A' L.length c'], .bool true]) (by simp [results, Try.results40, go_sem, r0, r1]) rfl ?_
        have R := ownsRow_setCell_below (ownsRow_setCell_below hsq (a := ⟨B + 1, 0, none⟩) (by simp; omega) (.int .i64 N)) (a := ⟨B + 1, 1, none⟩) (by simp; omega) (.slice A' L.length c')
        exact RetNet.mk (backL_len N L).symm (by rw [hB]; exact own_base R (by omega)) (by rw [hB]; exact (hB2.setCell (p := ⟨B + 1, 0, none⟩) (Nat.le_succ _) _).setCell (p := ⟨B + 1, 1, none⟩) (Nat.le_succ _) _)
  · rw [netX_no hG, ifNet_no hG, dc_false hG]
    go_enter Try.func40, Try.ntmps40
    go_wp2_with fail
    rw [← hW1]
    clear hW1
    refine (callB_no (neGood_any N A _ c L _ rfl hn (hL1.mono Z1.bel.size)) hG).mono ?_
    rintro e w2 ⟨rfl, hb2⟩
    have Z2 := Z1.keep hb2
    obtain ⟨_, r0, r1⟩ := id Z2.res
    have t0 := Z2.fz 0
    have t1 := Z2.fz 1
    have hB2 := Z2.bel
    clear Z1 hL1
    go_wp2_with fail
    refine bodyPost_ret (v := .tuple #[.agg #[.int .i64 0, .slice none 0 0], .bool false]) (by simp [results, Try.results40, go_sem, r0, r1]) rfl ?_
    exact RetNet.mk rfl (World.ownsRow_nil _ _ _ _) ((hB2.setCell (p := ⟨w.heap.size + 1, 0, none⟩) (Nat.le_succ _) _).setCell (p := ⟨w.heap.size + 1, 1, none⟩) (Nat.le_succ _) _)

end Go.Proofs.Ytllhhbgmdhlneaa
