/- The model's DropWire. -/
import Derived.Test.YtfhbbidbbomagaaNetC
import Derived.Test.YtfhbbidbbomagaaNetE
import Derived.Deep.DeepCutAuto
namespace Go.Proofs.Ytfhbbidbbomagaa
open Go.RowKit

/-- A net's box at a block that the call has made, whatever lies in it. -/
structure BXF (w2 wx : World) (g : Nat) : Prop where
  lo : w2.heap.size ≤ g
  hi : g < wx.heap.size
  c0 : ∃ v, wx.cell? ⟨g, 0, none⟩ = some v
  c1 : ∃ v, wx.cell? ⟨g, 1, none⟩ = some v
  fz : ∀ o, wx.frozen? ⟨g, o, none⟩ = false
theorem BXF.drew {w2 wx : World} {g : Nat} (h : BXF w2 wx g) : BXF w2 wx.drew g := ⟨h.lo, h.hi, h.c0, h.c1, h.fz⟩
theorem BXF.undrew {w2 wx : World} {g : Nat} (h : BXF w2.drew wx g) : BXF w2 wx g := ⟨h.lo, h.hi, h.c0, h.c1, h.fz⟩
theorem BXF.new {w2 wx : World} {a b : Value} {t : TypeId} (h : w2.heap.size ≤ wx.heap.size) : BXF w2 (wx.alloc (.cells #[a, b] t)) wx.heap.size :=
  ⟨h, by simp, ⟨a, by simp⟩, ⟨b, by simp⟩, fun o => by simp [go_sem]⟩
theorem BXF.grown {w2 wx w' : World} {g : Nat} {row : Option Nat} (h : BXF w2 wx g) (hg : wx.grownBy w' row) (hne : row ≠ some g) : BXF w2 w' g := by
  obtain ⟨v0, h0⟩ := h.c0
  obtain ⟨v1, h1⟩ := h.c1
  exact ⟨h.lo, Nat.lt_of_lt_of_le h.hi hg.size, ⟨v0, hg.cell h0 (fun e => hne e.symm)⟩, ⟨v1, hg.cell h1 (fun e => hne e.symm)⟩, fun o => (hg.frozen_far ⟨g, o, none⟩ h.hi (fun e => hne e.symm)).trans (h.fz o)⟩
theorem BXF.below {w2 wx w' : World} {g : Nat} (h : BXF w2 wx g) (hb : Below wx.heap.size wx w') : BXF w2 w' g := by
  obtain ⟨v0, h0⟩ := h.c0
  obtain ⟨v1, h1⟩ := h.c1
  exact ⟨h.lo, Nat.lt_of_lt_of_le h.hi hb.size, ⟨v0, (hb.cell (p := ⟨g, 0, none⟩) h.hi).trans h0⟩, ⟨v1, (hb.cell (p := ⟨g, 1, none⟩) h.hi).trans h1⟩, fun o => (hb.frozen (p := ⟨g, o, none⟩) h.hi).trans (h.fz o)⟩
theorem BXF.alloc {w2 wx : World} {g : Nat} (h : BXF w2 wx g) (o : Obj) : BXF w2 (wx.alloc o) g := h.below ((Below.refl _ _).alloc (Nat.le_refl _) o)
/-- What the region leaves that makes the net without the wire. -/
structure RCD (B : Nat) (w2 wx : World) (g : Nat) (N : Int) (A : Option Addr) (m c : Nat) (R : List Wi) : Prop where
  pd : PD B w2 wx
  lo : w2.heap.size ≤ g
  box : Nx g wx N A m c
  own : wx.ownsRow w2.heap.size 70 2 (.slice A m c) m (flatW R)
theorem RCD.late {B : Nat} {w2 w7 : World} {N : Int} {A : Option Addr} {m c : Nat} {R : List Wi} {t : TypeId} (h : PD B w2 w7) (o : w7.ownsRow w2.heap.size 70 2 (.slice A m c) m (flatW R)) :
    RCD B w2 (w7.alloc (.cells #[.int .i64 N, .slice A m c] t)) w7.heap.size N A m c R :=
  ⟨h.alloc _, h.sz, Nx.start _ _ _ _ _ _, own_keep o ((Below.refl _ _).alloc (Nat.le_refl _) _)⟩
theorem RCD.early {B : Nat} {w2 w7 : World} {g : Nat} {N : Int} {A : Option Addr} {m c : Nat} {R : List Wi} (h : PD B w2 w7) (hb : BXF w2 w7 g) (o : w7.ownsRow w2.heap.size 70 2 (.slice A m c) m (flatW R))
    (hne : ∀ k, (Value.slice A m c).ownBlock = some k → k ≠ g) : RCD B w2 ((w7.setCell ⟨g, 0, none⟩ (.int .i64 N)).setCell ⟨g, 1, none⟩ (.slice A m c)) g N A m c R := by
  have g0 := put_grown w7 ⟨g, 0, none⟩ (.int .i64 N)
  have g1 := put_grown (w7.setCell ⟨g, 0, none⟩ (.int .i64 N)) ⟨g, 1, none⟩ (.slice A m c)
  obtain ⟨v0, e0⟩ := hb.c0
  obtain ⟨v1, e1⟩ := hb.c1
  have hlo := hb.lo
  refine ⟨(h.grown g0 (fun k hk => by cases hk; exact hlo)).grown g1 (fun k hk => by cases hk; exact hlo), hlo, ⟨Nat.lt_of_lt_of_le hb.hi (Nat.le_trans g0.size g1.size), by simp [go_sem, e0, e1], by simp [go_sem, e0, e1]⟩, ?_⟩
  exact own_far (own_far o g0 (fun k hk e => hne k hk (by simpa using e.symm))) g1 (fun k hk e => hne k hk (by simpa using e.symm))
theorem PD.put1 {B g : Nat} {w2 wp : World} {v : Value} (h : PD B w2 wp) (hb : BXF w2 wp g) : PD B w2 (wp.setCell ⟨g, 0, none⟩ v) :=
  h.grown (put_grown wp ⟨g, 0, none⟩ v) (fun k hk => by cases hk; exact hb.lo)
theorem PD.put2 {B g : Nat} {w2 wp : World} {v u : Value} (h : PD B w2 wp) (hb : BXF w2 wp g) : PD B w2 ((wp.setCell ⟨g, 0, none⟩ v).setCell ⟨g, 1, none⟩ u) :=
  (h.put1 hb).grown (put_grown _ ⟨g, 1, none⟩ u) (fun k hk => by cases hk; exact hb.lo)
theorem ne_of_or {A : Option Addr} {n c s g : Nat} {r : Option Nat} (h : (Value.slice A n c).ownBlock = r ∨ (Value.slice A n c).ownBlock = some s) (h1 : r ≠ some g) (h2 : s ≠ g) : ∀ k, (Value.slice A n c).ownBlock = some k → k ≠ g := by
  rintro k hk rfl
  rcases h with h | h
  · exact h1 (h ▸ hk)
  · rw [hk] at h; exact h2 (Option.some.inj h).symm
theorem takeW_len {L : List Wi} {j : Nat} (h : j ≤ L.length) : (flatW (L.take j)).length = j * 2 := by rw [flatW_len, List.length_take]; omega
theorem dropW_len {L : List Wi} {j : Nat} : (flatW (L.drop j)).length = (L.length - j) * 2 := by rw [flatW_len, List.length_drop]
theorem src_takeW {w : World} {B b off j c : Nat} {L : List Wi} (hL : WisAt w B (some ⟨b, off, none⟩) L) : Src w (some ⟨b, off, none⟩) j c (flatW (L.take j)) := by
  refine .inr ⟨_, rfl, fun i u hu => ?_⟩
  have hi : i < (L.take j).length * 2 := by have := (List.getElem?_eq_some_iff.1 hu).1; rwa [flatW_len] at this
  obtain ⟨s, hs⟩ : ∃ s, (L.take j)[i / 2]? = some s := ⟨_, List.getElem?_eq_getElem (by omega)⟩
  have hs' : L[i / 2]? = some s := by
    rw [List.getElem?_take] at hs
    split at hs
    · exact hs
    · cases hs
  obtain ⟨b', off', e, _, c0, c1⟩ := hL _ s hs'
  cases e
  obtain ⟨h0, h1⟩ := flatW_get (L.take j) (i / 2) s hs
  by_cases h2 : i % 2 = 0
  · have e3 : i = i / 2 * 2 := by omega
    rw [e3] at hu ⊢
    rw [h0] at hu
    rw [← Option.some.inj hu, add_at]
    exact c0
  · have e3 : i = i / 2 * 2 + 1 := by omega
    rw [e3] at hu ⊢
    rw [h1] at hu
    rw [← Option.some.inj hu, add_at]
    exact c1
theorem src_dropW {w : World} {B b off m c : Nat} {L : List Wi} (hL : WisAt w B (some ⟨b, off, none⟩) L) (hm : m ≤ L.length) (hc : L.length ≤ c) (x : Nat) : Src w (if c = m then some ⟨b, off, none⟩ else some ⟨b, off + m * 2, none⟩) (L.length - m) x (flatW (L.drop m)) := by
  by_cases h : c = m
  · rw [if_pos h]
    refine .inr ⟨_, rfl, fun i u hu => ?_⟩
    have hi := (List.getElem?_eq_some_iff.1 hu).1
    rw [dropW_len] at hi
    omega
  · rw [if_neg h]
    refine .inr ⟨_, rfl, fun i u hu => ?_⟩
    have hi : i < (L.drop m).length * 2 := by have := (List.getElem?_eq_some_iff.1 hu).1; rwa [flatW_len] at this
    obtain ⟨s, hs⟩ : ∃ s, (L.drop m)[i / 2]? = some s := ⟨_, List.getElem?_eq_getElem (by omega)⟩
    have hs' : L[m + i / 2]? = some s := by rwa [List.getElem?_drop] at hs
    obtain ⟨b', off', e, _, c0, c1⟩ := hL _ s hs'
    cases e
    obtain ⟨h0, h1⟩ := flatW_get (L.drop m) (i / 2) s hs
    by_cases h2 : i % 2 = 0
    · have e3 : i = i / 2 * 2 := by omega
      rw [e3] at hu ⊢
      rw [h0] at hu
      rw [← Option.some.inj hu, add_at, show off + m * 2 + i / 2 * 2 = off + (m + i / 2) * 2 by omega]
      exact c0
    · have e3 : i = i / 2 * 2 + 1 := by omega
      rw [e3] at hu ⊢
      rw [h1] at hu
      rw [← Option.some.inj hu, add_at, show off + m * 2 + (i / 2 * 2 + 1) = off + (m + i / 2) * 2 + 1 by omega]
      exact c1
theorem BXF.new1 {w2 : World} {o : Obj} {a b : Value} {t : TypeId} : BXF w2 ((w2.alloc o).alloc (.cells #[a, b] t)) (w2.heap.size + 1) := by
  have h := BXF.new (w2 := w2) (wx := w2.alloc o) (a := a) (b := b) (t := t) (by simp)
  simpa using h
theorem erase_last {L : List Wi} {j : Nat} (h : L.length = j + 1) : flatW (L.take j) = flatW (L.eraseIdx j) := by
  rw [List.eraseIdx_eq_take_drop_succ, List.drop_eq_nil_of_le (by omega), List.append_nil]
theorem erase_cat {L : List Wi} {j : Nat} : flatW (L.take j) ++ flatW (L.drop (j + 1)) = flatW (L.eraseIdx j) := by rw [← flatW_app, List.eraseIdx_eq_take_drop_succ]

set_option maxRecDepth 100000 in
set_option maxHeartbeats 16000000 in
theorem specDrop_any (N : Int) (A : Option Addr) (n c : Nat) (L : List Wi) (k : Int) (w : World) (hl : L.length = n) (hc : n ≤ c) (hn : n ≤ 1048576) (hL : WisAt w w.heap.size A L) :
    Calls Try.prog 13 #[.agg #[.int .i64 N, .slice A n c], .int .i64 k] w (RetNet w (dropX N L k) (dropL N L k) (dc (DropOk N L k))) := by
  subst hl
  obtain ⟨W1, hW1⟩ : ∃ W1, W1 = (w.alloc (.cells #[.int .i64 N, .slice A L.length c] 28)).alloc (.cells #[.int .i64 0, .slice none 0 0] 28) := ⟨_, rfl⟩
  have Z1 : NR w.heap.size w W1 N A L.length c := by rw [hW1]; exact NR.start w N A L.length c
  have hL1 := hL.below Z1.bel
  obtain ⟨B, hB⟩ : ∃ B, w.heap.size = B := ⟨_, rfl⟩
  rw [hB] at Z1 hL hL1
  have hz1' := Z1.box.lt
  obtain ⟨_, n0, n1⟩ := id Z1.box
  by_cases hG : NetG N L
  · by_cases hk : 0 ≤ k ∧ k ≤ (L.length : Int) - 1
    · obtain ⟨j, rfl⟩ := Int.eq_ofNat_of_zero_le hk.1
      have hjL : j < L.length := by omega
      have h30 := hG.2.1
      have d1 := Lib.hid (inB_iff.2 hk)
      obtain ⟨X, hX⟩ : ∃ X, dropX N L j = X := ⟨_, rfl⟩
      obtain ⟨R, hR⟩ : ∃ R, dropL N L j = R := ⟨_, rfl⟩
      obtain ⟨ok, hK⟩ : ∃ ok, dc (DropOk N L j) = ok := ⟨_, rfl⟩
      have hG0 := Lib.hid hG
      rw [hX, hR, hK]
      have HX := Lib.hid hX
      have HR := Lib.hid hR
      have HK := Lib.hid hK
      clear hX hR hK hk
      obtain ⟨b, off, rfl, hbB, _, _⟩ := hL 0 _ (List.getElem?_eq_getElem (show 0 < L.length by omega))
      obtain ⟨i0, hi, hz0, hz1, hz2⟩ := info_parts infoWi
      have e1 : IntKind.i64.wrap ((L.length : Int) - 1) = (L.length : Int) - 1 := IntWalk.i64_in _ (by omega)
      have e2 : IntKind.i64.wrap ((j : Int) + 1) = (j : Int) + 1 := IntWalk.i64_in _ (by omega)
      go_enter Try.func13, Try.ntmps13
      go_wp2_with fail
      rw [← hW1]
      clear hW1
      refine (callB_yes (neGood_any N _ _ c L _ rfl hn (hL1.mono (Nat.le_of_lt hz1'))) hG).mono ?_
      rintro e w2 ⟨rfl, hb2⟩
      have Z2 := Z1.keep hb2
      clear Z1 hb2 n0 n1 hG hL1
      obtain ⟨hz, n0, n1⟩ := id Z2.box
      go_wp2_with fail
      refine (l1In_any _ _ _ _).mono ?_
      rw [d1.out]
      rintro e w3 ⟨rfl, rfl⟩
      have PA0 := Lib.hid Z2.pd
      have HS : Hid (∀ w' : World, PD B w2 w' → PD B w2 w' ∧ w'.cell? ⟨B, 0, none⟩ = some (.int .i64 N) ∧ w'.cell? ⟨B, 1, none⟩ = some (.slice (some ⟨b, off, none⟩) L.length c)) := Lib.hid fun w' h =>
        ⟨h, (h.bel.cell (p := ⟨B, 0, none⟩) (by simp)).trans n0, (h.bel.cell (p := ⟨B, 1, none⟩) (by simp)).trans n1⟩
      have HW : Hid (∀ w' : World, PD B w2 w' → WisAt w' B (some ⟨b, off, none⟩) L) := Lib.hid fun w' h => (hL.below Z2.bel).below (h.bel.mono (by omega))
      have hbel := Z2.bel
      have hsz2 := Z2.res.lt
      have hk0 : (0 : Int) ≤ (j : Int) := by omega
      have hk1 : (j : Int) ≤ (c : Int) := by omega
      have hk2 : (j : Int) + 1 ≤ (L.length : Int) := by omega
      have hk3 : (0 : Int) ≤ (j : Int) + 1 := by omega
      have hk4 : (L.length : Int) ≤ (c : Int) := by omega
      clear Z2 hL
      go_wp2_with fail
      by_cases hcj : c = j + 1
      · subst hcj
        have hk5 : (j : Int) ≤ (j : Int) + 1 := by omega
        have hk6 : (L.length : Int) ≤ (j : Int) + 1 := by omega
        have HD : Hid (∀ (w' : World) (x : Nat), PD B w2 w' → Src w' (some ⟨b, off, none⟩) 0 x []) := Lib.hid fun w' x h => by have h2 := src_dropW (HW.out w' h) hjL hc x; rw [if_pos rfl, show L.length - (j + 1) = 0 by omega, show L.drop (j + 1) = [] from List.drop_eq_nil_of_le (by omega)] at h2; exact h2
        have hT1 : (flatW (L.take j)).length = j * 2 := takeW_len (Nat.le_of_lt hjL)
        have hby1 : 0 + j ≤ maxLen := by unfold maxLen; omega
        have hby2 : (0 + j) * 16 ≤ 140737488355328 := by omega
        have hby3 : j + 0 ≤ maxLen := by unfold maxLen; omega
        have hby4 : (j + 0) * 16 ≤ 140737488355328 := by omega
        go_upto_region 3 with fail
        go_cut [6] (fun s6 wx => ∃ (g c7 : Nat) (A7 : Option Addr), s6 = .pointer (some ⟨g, 0, none⟩) ∧ RCD B w2 wx g N A7 (j + 0) c7 (L.eraseIdx j))
        case first =>
          go_region_held3 (fun w' => PD B w2 w' ∧ w'.cell? ⟨B, 0, none⟩ = some (.int .i64 N) ∧ w'.cell? ⟨B, 1, none⟩ = some (.slice (some ⟨b, off, none⟩) L.length (j + 1)))
            (first | assumption | exact HS.out _ PA0.out.drew | exact HS.out _ (by assumption) | exact HS.out _ (PD.alloc (And.left (by assumption)) _) | exact HS.out _ (PD.alloc (by assumption) _) | exact HS.out _ (PD.put2 (And.left (by assumption)) (by assumption)) | exact HS.out _ (PD.put1 (And.left (by assumption)) (by assumption)))
            (first
              | (refine app_step rfl _ _ _ rfl w2.heap.size 70 i0 (.agg #[.int .i64 0, .int .i64 0]) 2 16 Try.underlying26 hi hz0 hz1 hz2 rfl (by decide) (.slice (some ⟨_, 0, none⟩) 0 0) 0 [] rfl ((lit_at _ _ _ (by first | rfl | simp) (by first | exact Nat.le_refl _ | simp | (simp; omega)))) (some ⟨b, off, none⟩) j _ (flatW (L.take j)) rfl hT1 (src_takeW (HW.out _ (And.left (by assumption)))) (flatW_one _) hby1 hby2 (PD.sz (And.left (by assumption))) ?_; intro v' w6 hown6 hgr6 hv6; rw [Nat.zero_add, List.nil_append] at hown6; obtain ⟨A6, c6, rfl⟩ := own_val hown6; have hP6 : PD B w2 w6 := PD.grown (And.left (by assumption)) hgr6 (fun k hk => by simp [Value.ownBlock] at hk; subst hk; first | exact Nat.le_refl _ | simp | (simp; omega)); have o6 : w6.ownsRow w2.heap.size 70 2 (.slice A6 j c6) j (flatW (L.take j)) := hown6; (try (have hx6 : BXF w2 w6 w2.heap.size := BXF.grown (by (first | exact BXF.new (Nat.le_refl _) | exact (BXF.new (Nat.le_refl _)).alloc _ | exact ((BXF.new (Nat.le_refl _)).alloc _).drew | exact ((BXF.new (Nat.le_refl _)).drew).alloc _ | exact BXF.new1 | exact BXF.new1.drew)) hgr6 (by (simp [Value.ownBlock]; done)); have hn6 : ∀ k, (Value.slice A6 j c6).ownBlock = some k → k ≠ w2.heap.size := ne_of_or hv6 (by (simp [Value.ownBlock]; done)) (by first | (simp; done) | (simp; omega)))); (try (have hx6 : BXF w2 w6 (w2.heap.size + 1) := BXF.grown (by (first | exact BXF.new (Nat.le_refl _) | exact (BXF.new (Nat.le_refl _)).alloc _ | exact ((BXF.new (Nat.le_refl _)).alloc _).drew | exact ((BXF.new (Nat.le_refl _)).drew).alloc _ | exact BXF.new1 | exact BXF.new1.drew)) hgr6 (by (simp [Value.ownBlock]; done)); have hn6 : ∀ k, (Value.slice A6 j c6).ownBlock = some k → k ≠ (w2.heap.size + 1) := ne_of_or hv6 (by (simp [Value.ownBlock]; done)) (by first | (simp; done) | (simp; omega)))))
              | (refine app_step rfl _ _ _ rfl w2.heap.size 70 i0 (.agg #[.int .i64 0, .int .i64 0]) 2 16 Try.underlying26 hi hz0 hz1 hz2 rfl (by decide) (.slice (some ⟨_, 0, none⟩) 0 0) 0 [] rfl (((lit_at _ _ _ (by first | rfl | simp) (by first | exact Nat.le_refl _ | simp | (simp; omega)))).drew) (some ⟨b, off, none⟩) j _ (flatW (L.take j)) rfl hT1 (src_takeW (HW.out _ (And.left (by assumption)))) (flatW_one _) hby1 hby2 (PD.sz (And.left (by assumption))) ?_; intro v' w6 hown6 hgr6 hv6; rw [Nat.zero_add, List.nil_append] at hown6; obtain ⟨A6, c6, rfl⟩ := own_val hown6; have hP6 : PD B w2 w6 := PD.grown (And.left (by assumption)) hgr6 (fun k hk => by simp [Value.ownBlock] at hk; subst hk; first | exact Nat.le_refl _ | simp | (simp; omega)); have o6 : w6.ownsRow w2.heap.size 70 2 (.slice A6 j c6) j (flatW (L.take j)) := hown6; (try (have hx6 : BXF w2 w6 w2.heap.size := BXF.grown (by (first | exact BXF.new (Nat.le_refl _) | exact (BXF.new (Nat.le_refl _)).alloc _ | exact ((BXF.new (Nat.le_refl _)).alloc _).drew | exact ((BXF.new (Nat.le_refl _)).drew).alloc _ | exact BXF.new1 | exact BXF.new1.drew)) hgr6 (by (simp [Value.ownBlock]; done)); have hn6 : ∀ k, (Value.slice A6 j c6).ownBlock = some k → k ≠ w2.heap.size := ne_of_or hv6 (by (simp [Value.ownBlock]; done)) (by first | (simp; done) | (simp; omega)))); (try (have hx6 : BXF w2 w6 (w2.heap.size + 1) := BXF.grown (by (first | exact BXF.new (Nat.le_refl _) | exact (BXF.new (Nat.le_refl _)).alloc _ | exact ((BXF.new (Nat.le_refl _)).alloc _).drew | exact ((BXF.new (Nat.le_refl _)).drew).alloc _ | exact BXF.new1 | exact BXF.new1.drew)) hgr6 (by (simp [Value.ownBlock]; done)); have hn6 : ∀ k, (Value.slice A6 j c6).ownBlock = some k → k ≠ (w2.heap.size + 1) := ne_of_or hv6 (by (simp [Value.ownBlock]; done)) (by first | (simp; done) | (simp; omega)))))
              | (refine app_step rfl _ _ _ rfl w2.heap.size 70 i0 (.agg #[.int .i64 0, .int .i64 0]) 2 16 Try.underlying26 hi hz0 hz1 hz2 rfl (by decide) (.slice (some ⟨_, 0, none⟩) 0 0) 0 [] rfl (((lit_at _ _ _ (by first | rfl | simp) (by first | exact Nat.le_refl _ | simp | (simp; omega)))).alloc _) (some ⟨b, off, none⟩) j _ (flatW (L.take j)) rfl hT1 (src_takeW (HW.out _ (And.left (by assumption)))) (flatW_one _) hby1 hby2 (PD.sz (And.left (by assumption))) ?_; intro v' w6 hown6 hgr6 hv6; rw [Nat.zero_add, List.nil_append] at hown6; obtain ⟨A6, c6, rfl⟩ := own_val hown6; have hP6 : PD B w2 w6 := PD.grown (And.left (by assumption)) hgr6 (fun k hk => by simp [Value.ownBlock] at hk; subst hk; first | exact Nat.le_refl _ | simp | (simp; omega)); have o6 : w6.ownsRow w2.heap.size 70 2 (.slice A6 j c6) j (flatW (L.take j)) := hown6; (try (have hx6 : BXF w2 w6 w2.heap.size := BXF.grown (by (first | exact BXF.new (Nat.le_refl _) | exact (BXF.new (Nat.le_refl _)).alloc _ | exact ((BXF.new (Nat.le_refl _)).alloc _).drew | exact ((BXF.new (Nat.le_refl _)).drew).alloc _ | exact BXF.new1 | exact BXF.new1.drew)) hgr6 (by (simp [Value.ownBlock]; done)); have hn6 : ∀ k, (Value.slice A6 j c6).ownBlock = some k → k ≠ w2.heap.size := ne_of_or hv6 (by (simp [Value.ownBlock]; done)) (by first | (simp; done) | (simp; omega)))); (try (have hx6 : BXF w2 w6 (w2.heap.size + 1) := BXF.grown (by (first | exact BXF.new (Nat.le_refl _) | exact (BXF.new (Nat.le_refl _)).alloc _ | exact ((BXF.new (Nat.le_refl _)).alloc _).drew | exact ((BXF.new (Nat.le_refl _)).drew).alloc _ | exact BXF.new1 | exact BXF.new1.drew)) hgr6 (by (simp [Value.ownBlock]; done)); have hn6 : ∀ k, (Value.slice A6 j c6).ownBlock = some k → k ≠ (w2.heap.size + 1) := ne_of_or hv6 (by (simp [Value.ownBlock]; done)) (by first | (simp; done) | (simp; omega)))))
              | (refine app_step rfl _ _ _ rfl w2.heap.size 70 i0 (.agg #[.int .i64 0, .int .i64 0]) 2 16 Try.underlying26 hi hz0 hz1 hz2 rfl (by decide) (.slice (some ⟨_, 0, none⟩) 0 0) 0 [] rfl ((((lit_at _ _ _ (by first | rfl | simp) (by first | exact Nat.le_refl _ | simp | (simp; omega)))).alloc _).drew) (some ⟨b, off, none⟩) j _ (flatW (L.take j)) rfl hT1 (src_takeW (HW.out _ (And.left (by assumption)))) (flatW_one _) hby1 hby2 (PD.sz (And.left (by assumption))) ?_; intro v' w6 hown6 hgr6 hv6; rw [Nat.zero_add, List.nil_append] at hown6; obtain ⟨A6, c6, rfl⟩ := own_val hown6; have hP6 : PD B w2 w6 := PD.grown (And.left (by assumption)) hgr6 (fun k hk => by simp [Value.ownBlock] at hk; subst hk; first | exact Nat.le_refl _ | simp | (simp; omega)); have o6 : w6.ownsRow w2.heap.size 70 2 (.slice A6 j c6) j (flatW (L.take j)) := hown6; (try (have hx6 : BXF w2 w6 w2.heap.size := BXF.grown (by (first | exact BXF.new (Nat.le_refl _) | exact (BXF.new (Nat.le_refl _)).alloc _ | exact ((BXF.new (Nat.le_refl _)).alloc _).drew | exact ((BXF.new (Nat.le_refl _)).drew).alloc _ | exact BXF.new1 | exact BXF.new1.drew)) hgr6 (by (simp [Value.ownBlock]; done)); have hn6 : ∀ k, (Value.slice A6 j c6).ownBlock = some k → k ≠ w2.heap.size := ne_of_or hv6 (by (simp [Value.ownBlock]; done)) (by first | (simp; done) | (simp; omega)))); (try (have hx6 : BXF w2 w6 (w2.heap.size + 1) := BXF.grown (by (first | exact BXF.new (Nat.le_refl _) | exact (BXF.new (Nat.le_refl _)).alloc _ | exact ((BXF.new (Nat.le_refl _)).alloc _).drew | exact ((BXF.new (Nat.le_refl _)).drew).alloc _ | exact BXF.new1 | exact BXF.new1.drew)) hgr6 (by (simp [Value.ownBlock]; done)); have hn6 : ∀ k, (Value.slice A6 j c6).ownBlock = some k → k ≠ (w2.heap.size + 1) := ne_of_or hv6 (by (simp [Value.ownBlock]; done)) (by first | (simp; done) | (simp; omega)))))
              | (refine app_step rfl _ _ _ rfl w2.heap.size 70 i0 (.agg #[.int .i64 0, .int .i64 0]) 2 16 Try.underlying26 hi hz0 hz1 hz2 rfl (by decide) (.slice (some ⟨_, 0, none⟩) 0 0) 0 [] rfl ((((lit_at _ _ _ (by first | rfl | simp) (by first | exact Nat.le_refl _ | simp | (simp; omega)))).drew).alloc _) (some ⟨b, off, none⟩) j _ (flatW (L.take j)) rfl hT1 (src_takeW (HW.out _ (And.left (by assumption)))) (flatW_one _) hby1 hby2 (PD.sz (And.left (by assumption))) ?_; intro v' w6 hown6 hgr6 hv6; rw [Nat.zero_add, List.nil_append] at hown6; obtain ⟨A6, c6, rfl⟩ := own_val hown6; have hP6 : PD B w2 w6 := PD.grown (And.left (by assumption)) hgr6 (fun k hk => by simp [Value.ownBlock] at hk; subst hk; first | exact Nat.le_refl _ | simp | (simp; omega)); have o6 : w6.ownsRow w2.heap.size 70 2 (.slice A6 j c6) j (flatW (L.take j)) := hown6; (try (have hx6 : BXF w2 w6 w2.heap.size := BXF.grown (by (first | exact BXF.new (Nat.le_refl _) | exact (BXF.new (Nat.le_refl _)).alloc _ | exact ((BXF.new (Nat.le_refl _)).alloc _).drew | exact ((BXF.new (Nat.le_refl _)).drew).alloc _ | exact BXF.new1 | exact BXF.new1.drew)) hgr6 (by (simp [Value.ownBlock]; done)); have hn6 : ∀ k, (Value.slice A6 j c6).ownBlock = some k → k ≠ w2.heap.size := ne_of_or hv6 (by (simp [Value.ownBlock]; done)) (by first | (simp; done) | (simp; omega)))); (try (have hx6 : BXF w2 w6 (w2.heap.size + 1) := BXF.grown (by (first | exact BXF.new (Nat.le_refl _) | exact (BXF.new (Nat.le_refl _)).alloc _ | exact ((BXF.new (Nat.le_refl _)).alloc _).drew | exact ((BXF.new (Nat.le_refl _)).drew).alloc _ | exact BXF.new1 | exact BXF.new1.drew)) hgr6 (by (simp [Value.ownBlock]; done)); have hn6 : ∀ k, (Value.slice A6 j c6).ownBlock = some k → k ≠ (w2.heap.size + 1) := ne_of_or hv6 (by (simp [Value.ownBlock]; done)) (by first | (simp; done) | (simp; omega)))))
              | (refine app_step rfl _ _ _ rfl w2.heap.size 70 i0 (.agg #[.int .i64 0, .int .i64 0]) 2 16 Try.underlying26 hi hz0 hz1 hz2 rfl (by decide) (.slice A6 j c6) j (flatW (L.take j)) rfl (o6) _ 0 _ [] rfl rfl (HD.out _ _ (And.left (by assumption))) (by simp) hby3 hby4 (PD.sz (And.left (by assumption))) ?_; intro v' w7 hown7 hgr7 hv7; obtain ⟨A7, c7, rfl⟩ := own_val hown7; have hP7 : PD B w2 w7 := PD.grown (And.left (by assumption)) hgr7 (fun k hk => (o6.lt k hk).1); rw [List.append_nil, erase_last (by omega)] at hown7; (try have hx7 := hx6.grown hgr7 (fun e => hn6 _ e rfl)); (try have hn7 := ne_of_or hv7 (fun e => hn6 _ e rfl) (by have := hx6.hi; omega)); (try obtain ⟨u0, r0⟩ := hx7.c0); (try obtain ⟨u1, r1⟩ := hx7.c1); (try have t0 := hx7.fz 0); (try have t1 := hx7.fz 1))
              | (refine app_step rfl _ _ _ rfl w2.heap.size 70 i0 (.agg #[.int .i64 0, .int .i64 0]) 2 16 Try.underlying26 hi hz0 hz1 hz2 rfl (by decide) (.slice A6 j c6) j (flatW (L.take j)) rfl (o6.drew) _ 0 _ [] rfl rfl (HD.out _ _ (And.left (by assumption))) (by simp) hby3 hby4 (PD.sz (And.left (by assumption))) ?_; intro v' w7 hown7 hgr7 hv7; obtain ⟨A7, c7, rfl⟩ := own_val hown7; have hP7 : PD B w2 w7 := PD.grown (And.left (by assumption)) hgr7 (fun k hk => (o6.lt k hk).1); rw [List.append_nil, erase_last (by omega)] at hown7; (try have hx7 := hx6.grown hgr7 (fun e => hn6 _ e rfl)); (try have hn7 := ne_of_or hv7 (fun e => hn6 _ e rfl) (by have := hx6.hi; omega)); (try obtain ⟨u0, r0⟩ := hx7.c0); (try obtain ⟨u1, r1⟩ := hx7.c1); (try have t0 := hx7.fz 0); (try have t1 := hx7.fz 1))
              | (refine app_step rfl _ _ _ rfl w2.heap.size 70 i0 (.agg #[.int .i64 0, .int .i64 0]) 2 16 Try.underlying26 hi hz0 hz1 hz2 rfl (by decide) (.slice A6 j c6) j (flatW (L.take j)) rfl (o6.alloc _) _ 0 _ [] rfl rfl (HD.out _ _ (And.left (by assumption))) (by simp) hby3 hby4 (PD.sz (And.left (by assumption))) ?_; intro v' w7 hown7 hgr7 hv7; obtain ⟨A7, c7, rfl⟩ := own_val hown7; have hP7 : PD B w2 w7 := PD.grown (And.left (by assumption)) hgr7 (fun k hk => (o6.lt k hk).1); rw [List.append_nil, erase_last (by omega)] at hown7; have hx7 := (BXF.new hP6.sz).grown hgr7 (fun e => by have := (o6.lt _ e).2; omega); have hn7 : ∀ k, (Value.slice A7 (j + 0) c7).ownBlock = some k → k ≠ w6.heap.size := ne_of_or hv7 (fun e => by have := (o6.lt _ e).2; omega) (by simp); obtain ⟨u0, r0⟩ := hx7.c0; obtain ⟨u1, r1⟩ := hx7.c1; have t0 := hx7.fz 0; have t1 := hx7.fz 1)
              | (refine app_step rfl _ _ _ rfl w2.heap.size 70 i0 (.agg #[.int .i64 0, .int .i64 0]) 2 16 Try.underlying26 hi hz0 hz1 hz2 rfl (by decide) (.slice A6 j c6) j (flatW (L.take j)) rfl ((o6.alloc _).drew) _ 0 _ [] rfl rfl (HD.out _ _ (And.left (by assumption))) (by simp) hby3 hby4 (PD.sz (And.left (by assumption))) ?_; intro v' w7 hown7 hgr7 hv7; obtain ⟨A7, c7, rfl⟩ := own_val hown7; have hP7 : PD B w2 w7 := PD.grown (And.left (by assumption)) hgr7 (fun k hk => (o6.lt k hk).1); rw [List.append_nil, erase_last (by omega)] at hown7; have hx7 := (BXF.new hP6.sz).grown hgr7 (fun e => by have := (o6.lt _ e).2; omega); have hn7 : ∀ k, (Value.slice A7 (j + 0) c7).ownBlock = some k → k ≠ w6.heap.size := ne_of_or hv7 (fun e => by have := (o6.lt _ e).2; omega) (by simp); obtain ⟨u0, r0⟩ := hx7.c0; obtain ⟨u1, r1⟩ := hx7.c1; have t0 := hx7.fz 0; have t1 := hx7.fz 1)
              | (refine app_step rfl _ _ _ rfl w2.heap.size 70 i0 (.agg #[.int .i64 0, .int .i64 0]) 2 16 Try.underlying26 hi hz0 hz1 hz2 rfl (by decide) (.slice A6 j c6) j (flatW (L.take j)) rfl ((o6.drew).alloc _) _ 0 _ [] rfl rfl (HD.out _ _ (And.left (by assumption))) (by simp) hby3 hby4 (PD.sz (And.left (by assumption))) ?_; intro v' w7 hown7 hgr7 hv7; obtain ⟨A7, c7, rfl⟩ := own_val hown7; have hP7 : PD B w2 w7 := PD.grown (And.left (by assumption)) hgr7 (fun k hk => (o6.lt k hk).1); rw [List.append_nil, erase_last (by omega)] at hown7; have hx7 := (BXF.new hP6.sz).grown hgr7 (fun e => by have := (o6.lt _ e).2; omega); have hn7 : ∀ k, (Value.slice A7 (j + 0) c7).ownBlock = some k → k ≠ w6.heap.size := ne_of_or hv7 (fun e => by have := (o6.lt _ e).2; omega) (by simp); obtain ⟨u0, r0⟩ := hx7.c0; obtain ⟨u1, r1⟩ := hx7.c1; have t0 := hx7.fz 0; have t1 := hx7.fz 1))
          all_goals (go_wp2_with fail; go_meet)
          all_goals
            refine ⟨_, c7, A7, rfl, ?_⟩
            first
              | exact RCD.late hP7 hown7
              | exact RCD.early hP7 hx7 hown7 hn7
        obtain ⟨g, c7, A7, rfl, hR⟩ := hcut
        obtain ⟨_, q0, q1⟩ := id hR.box
        have o7 := hR.own
        have hel : (L.eraseIdx j).length = j + 0 := by rw [List.length_eraseIdx, if_pos hjL]; omega
        have HEL := Lib.hid hel
        have eX := HX.out
        have eR := HR.out
        have eK := HK.out
        clear hel HS PA0 HW HD
        by_cases hG2 : NetG N (L.eraseIdx j)
        · have hd : DropOk N L j := ⟨hG0.out, ⟨by omega, by omega⟩, by simpa using hG2⟩
          rw [dropX_yes hd] at eX
          rw [dropL_yes hd, Int.toNat_natCast] at eR
          rw [dc_true hd] at eK
          clear hd HX HR HK hG0
          subst eX eR eK
          go_wp2_with fail
          refine (callB_yes (neGood_any N _ _ c7 _ _ HEL.out (by omega) (wis_of_own o7)) hG2).mono ?_
          rintro e w8 ⟨rfl, hb8⟩
          have hP8 := hR.pd.below hb8
          obtain ⟨u0, r0⟩ := hP8.c0
          obtain ⟨u1, r1⟩ := hP8.c1
          have t0 := hP8.fz 0
          have t1 := hP8.fz 1
          have b8 := hR.box.next hb8
          obtain ⟨_, q0, q1⟩ := id b8
          have hB8 := hbel.trans (hP8.bel.mono (show B ≤ B + 1 by omega))
          have o8 := own_keep o7 hb8
          clear hR
          go_wp2_with fail
          refine bodyPost_ret (v := .tuple #[.agg #[.int .i64 N, .slice A7 (j + 0) c7], .bool true]) (by simp [results, Try.results13, go_sem, r0, r1]) rfl ?_
          have RR := ownsRow_setCell_below (ownsRow_setCell_below o8 (a := ⟨B + 1, 0, none⟩) hsz2 (.int .i64 N)) (a := ⟨B + 1, 1, none⟩) hsz2 (.slice A7 (j + 0) c7)
          exact RetNet.mk HEL.out.symm (by rw [hB]; exact own_base RR (by omega)) (by rw [hB]; exact (hB8.setCell (p := ⟨B + 1, 0, none⟩) (by simp) _).setCell (p := ⟨B + 1, 1, none⟩) (by simp) _)
        · have hd : ¬ DropOk N L j := fun h => hG2 (by simpa using h.2.2)
          rw [dropX_no hd] at eX
          rw [dropL_no hd] at eR
          rw [dc_false hd] at eK
          clear hd HX HR HK hG0
          subst eX eR eK
          go_wp2_with fail
          refine (callB_no (neGood_any N _ _ c7 _ _ HEL.out (by omega) (wis_of_own o7)) hG2).mono ?_
          rintro e w8 ⟨rfl, hb8⟩
          have hP8 := hR.pd.below hb8
          obtain ⟨u0, r0⟩ := hP8.c0
          obtain ⟨u1, r1⟩ := hP8.c1
          have t0 := hP8.fz 0
          have t1 := hP8.fz 1
          have b8 := hR.box.next hb8
          obtain ⟨_, q0, q1⟩ := id b8
          have hB8 := hbel.trans (hP8.bel.mono (show B ≤ B + 1 by omega))
          have o8 := own_keep o7 hb8
          clear hR
          go_wp2_with fail
          refine bodyPost_ret (v := .tuple #[.agg #[.int .i64 0, .slice none 0 0], .bool false]) (by simp [results, Try.results13, go_sem, r0, r1]) rfl ?_
          exact RetNet.mk rfl (World.ownsRow_nil _ _ _ _) (by rw [hB]; exact (hB8.setCell (p := ⟨B + 1, 0, none⟩) (by simp) _).setCell (p := ⟨B + 1, 1, none⟩) (by simp) _)
      · skip
        have HD : Hid (∀ (w' : World) (x : Nat), PD B w2 w' → Src w' (some ⟨b, off + (j + 1) * 2, none⟩) (L.length - (j + 1)) x (flatW (L.drop (j + 1)))) := Lib.hid fun w' x h => by have h2 := src_dropW (HW.out w' h) hjL hc x; rwa [if_neg hcj] at h2
        have hT1 : (flatW (L.take j)).length = j * 2 := takeW_len (Nat.le_of_lt hjL)
        have hby1 : 0 + j ≤ maxLen := by unfold maxLen; omega
        have hby2 : (0 + j) * 16 ≤ 140737488355328 := by omega
        have hby3 : j + (L.length - (j + 1)) ≤ maxLen := by unfold maxLen; omega
        have hby4 : (j + (L.length - (j + 1))) * 16 ≤ 140737488355328 := by omega
        go_upto_region 3 with fail
        go_cut [6] (fun s6 wx => ∃ (g c7 : Nat) (A7 : Option Addr), s6 = .pointer (some ⟨g, 0, none⟩) ∧ RCD B w2 wx g N A7 (j + (L.length - (j + 1))) c7 (L.eraseIdx j))
        case first =>
          go_region_held3 (fun w' => PD B w2 w' ∧ w'.cell? ⟨B, 0, none⟩ = some (.int .i64 N) ∧ w'.cell? ⟨B, 1, none⟩ = some (.slice (some ⟨b, off, none⟩) L.length c))
            (first | assumption | exact HS.out _ PA0.out.drew | exact HS.out _ (by assumption) | exact HS.out _ (PD.alloc (And.left (by assumption)) _) | exact HS.out _ (PD.alloc (by assumption) _) | exact HS.out _ (PD.put2 (And.left (by assumption)) (by assumption)) | exact HS.out _ (PD.put1 (And.left (by assumption)) (by assumption)))
            (first
              | (refine app_step rfl _ _ _ rfl w2.heap.size 70 i0 (.agg #[.int .i64 0, .int .i64 0]) 2 16 Try.underlying26 hi hz0 hz1 hz2 rfl (by decide) (.slice (some ⟨_, 0, none⟩) 0 0) 0 [] rfl ((lit_at _ _ _ (by first | rfl | simp) (by first | exact Nat.le_refl _ | simp | (simp; omega)))) (some ⟨b, off, none⟩) j _ (flatW (L.take j)) rfl hT1 (src_takeW (HW.out _ (And.left (by assumption)))) (flatW_one _) hby1 hby2 (PD.sz (And.left (by assumption))) ?_; intro v' w6 hown6 hgr6 hv6; rw [Nat.zero_add, List.nil_append] at hown6; obtain ⟨A6, c6, rfl⟩ := own_val hown6; have hP6 : PD B w2 w6 := PD.grown (And.left (by assumption)) hgr6 (fun k hk => by simp [Value.ownBlock] at hk; subst hk; first | exact Nat.le_refl _ | simp | (simp; omega)); have o6 : w6.ownsRow w2.heap.size 70 2 (.slice A6 j c6) j (flatW (L.take j)) := hown6; (try (have hx6 : BXF w2 w6 w2.heap.size := BXF.grown (by (first | exact BXF.new (Nat.le_refl _) | exact (BXF.new (Nat.le_refl _)).alloc _ | exact ((BXF.new (Nat.le_refl _)).alloc _).drew | exact ((BXF.new (Nat.le_refl _)).drew).alloc _ | exact BXF.new1 | exact BXF.new1.drew)) hgr6 (by (simp [Value.ownBlock]; done)); have hn6 : ∀ k, (Value.slice A6 j c6).ownBlock = some k → k ≠ w2.heap.size := ne_of_or hv6 (by (simp [Value.ownBlock]; done)) (by first | (simp; done) | (simp; omega)))); (try (have hx6 : BXF w2 w6 (w2.heap.size + 1) := BXF.grown (by (first | exact BXF.new (Nat.le_refl _) | exact (BXF.new (Nat.le_refl _)).alloc _ | exact ((BXF.new (Nat.le_refl _)).alloc _).drew | exact ((BXF.new (Nat.le_refl _)).drew).alloc _ | exact BXF.new1 | exact BXF.new1.drew)) hgr6 (by (simp [Value.ownBlock]; done)); have hn6 : ∀ k, (Value.slice A6 j c6).ownBlock = some k → k ≠ (w2.heap.size + 1) := ne_of_or hv6 (by (simp [Value.ownBlock]; done)) (by first | (simp; done) | (simp; omega)))))
              | (refine app_step rfl _ _ _ rfl w2.heap.size 70 i0 (.agg #[.int .i64 0, .int .i64 0]) 2 16 Try.underlying26 hi hz0 hz1 hz2 rfl (by decide) (.slice (some ⟨_, 0, none⟩) 0 0) 0 [] rfl (((lit_at _ _ _ (by first | rfl | simp) (by first | exact Nat.le_refl _ | simp | (simp; omega)))).drew) (some ⟨b, off, none⟩) j _ (flatW (L.take j)) rfl hT1 (src_takeW (HW.out _ (And.left (by assumption)))) (flatW_one _) hby1 hby2 (PD.sz (And.left (by assumption))) ?_; intro v' w6 hown6 hgr6 hv6; rw [Nat.zero_add, List.nil_append] at hown6; obtain ⟨A6, c6, rfl⟩ := own_val hown6; have hP6 : PD B w2 w6 := PD.grown (And.left (by assumption)) hgr6 (fun k hk => by simp [Value.ownBlock] at hk; subst hk; first | exact Nat.le_refl _ | simp | (simp; omega)); have o6 : w6.ownsRow w2.heap.size 70 2 (.slice A6 j c6) j (flatW (L.take j)) := hown6; (try (have hx6 : BXF w2 w6 w2.heap.size := BXF.grown (by (first | exact BXF.new (Nat.le_refl _) | exact (BXF.new (Nat.le_refl _)).alloc _ | exact ((BXF.new (Nat.le_refl _)).alloc _).drew | exact ((BXF.new (Nat.le_refl _)).drew).alloc _ | exact BXF.new1 | exact BXF.new1.drew)) hgr6 (by (simp [Value.ownBlock]; done)); have hn6 : ∀ k, (Value.slice A6 j c6).ownBlock = some k → k ≠ w2.heap.size := ne_of_or hv6 (by (simp [Value.ownBlock]; done)) (by first | (simp; done) | (simp; omega)))); (try (have hx6 : BXF w2 w6 (w2.heap.size + 1) := BXF.grown (by (first | exact BXF.new (Nat.le_refl _) | exact (BXF.new (Nat.le_refl _)).alloc _ | exact ((BXF.new (Nat.le_refl _)).alloc _).drew | exact ((BXF.new (Nat.le_refl _)).drew).alloc _ | exact BXF.new1 | exact BXF.new1.drew)) hgr6 (by (simp [Value.ownBlock]; done)); have hn6 : ∀ k, (Value.slice A6 j c6).ownBlock = some k → k ≠ (w2.heap.size + 1) := ne_of_or hv6 (by (simp [Value.ownBlock]; done)) (by first | (simp; done) | (simp; omega)))))
              | (refine app_step rfl _ _ _ rfl w2.heap.size 70 i0 (.agg #[.int .i64 0, .int .i64 0]) 2 16 Try.underlying26 hi hz0 hz1 hz2 rfl (by decide) (.slice (some ⟨_, 0, none⟩) 0 0) 0 [] rfl (((lit_at _ _ _ (by first | rfl | simp) (by first | exact Nat.le_refl _ | simp | (simp; omega)))).alloc _) (some ⟨b, off, none⟩) j _ (flatW (L.take j)) rfl hT1 (src_takeW (HW.out _ (And.left (by assumption)))) (flatW_one _) hby1 hby2 (PD.sz (And.left (by assumption))) ?_; intro v' w6 hown6 hgr6 hv6; rw [Nat.zero_add, List.nil_append] at hown6; obtain ⟨A6, c6, rfl⟩ := own_val hown6; have hP6 : PD B w2 w6 := PD.grown (And.left (by assumption)) hgr6 (fun k hk => by simp [Value.ownBlock] at hk; subst hk; first | exact Nat.le_refl _ | simp | (simp; omega)); have o6 : w6.ownsRow w2.heap.size 70 2 (.slice A6 j c6) j (flatW (L.take j)) := hown6; (try (have hx6 : BXF w2 w6 w2.heap.size := BXF.grown (by (first | exact BXF.new (Nat.le_refl _) | exact (BXF.new (Nat.le_refl _)).alloc _ | exact ((BXF.new (Nat.le_refl _)).alloc _).drew | exact ((BXF.new (Nat.le_refl _)).drew).alloc _ | exact BXF.new1 | exact BXF.new1.drew)) hgr6 (by (simp [Value.ownBlock]; done)); have hn6 : ∀ k, (Value.slice A6 j c6).ownBlock = some k → k ≠ w2.heap.size := ne_of_or hv6 (by (simp [Value.ownBlock]; done)) (by first | (simp; done) | (simp; omega)))); (try (have hx6 : BXF w2 w6 (w2.heap.size + 1) := BXF.grown (by (first | exact BXF.new (Nat.le_refl _) | exact (BXF.new (Nat.le_refl _)).alloc _ | exact ((BXF.new (Nat.le_refl _)).alloc _).drew | exact ((BXF.new (Nat.le_refl _)).drew).alloc _ | exact BXF.new1 | exact BXF.new1.drew)) hgr6 (by (simp [Value.ownBlock]; done)); have hn6 : ∀ k, (Value.slice A6 j c6).ownBlock = some k → k ≠ (w2.heap.size + 1) := ne_of_or hv6 (by (simp [Value.ownBlock]; done)) (by first | (simp; done) | (simp; omega)))))
              | (refine app_step rfl _ _ _ rfl w2.heap.size 70 i0 (.agg #[.int .i64 0, .int .i64 0]) 2 16 Try.underlying26 hi hz0 hz1 hz2 rfl (by decide) (.slice (some ⟨_, 0, none⟩) 0 0) 0 [] rfl ((((lit_at _ _ _ (by first | rfl | simp) (by first | exact Nat.le_refl _ | simp | (simp; omega)))).alloc _).drew) (some ⟨b, off, none⟩) j _ (flatW (L.take j)) rfl hT1 (src_takeW (HW.out _ (And.left (by assumption)))) (flatW_one _) hby1 hby2 (PD.sz (And.left (by assumption))) ?_; intro v' w6 hown6 hgr6 hv6; rw [Nat.zero_add, List.nil_append] at hown6; obtain ⟨A6, c6, rfl⟩ := own_val hown6; have hP6 : PD B w2 w6 := PD.grown (And.left (by assumption)) hgr6 (fun k hk => by simp [Value.ownBlock] at hk; subst hk; first | exact Nat.le_refl _ | simp | (simp; omega)); have o6 : w6.ownsRow w2.heap.size 70 2 (.slice A6 j c6) j (flatW (L.take j)) := hown6; (try (have hx6 : BXF w2 w6 w2.heap.size := BXF.grown (by (first | exact BXF.new (Nat.le_refl _) | exact (BXF.new (Nat.le_refl _)).alloc _ | exact ((BXF.new (Nat.le_refl _)).alloc _).drew | exact ((BXF.new (Nat.le_refl _)).drew).alloc _ | exact BXF.new1 | exact BXF.new1.drew)) hgr6 (by (simp [Value.ownBlock]; done)); have hn6 : ∀ k, (Value.slice A6 j c6).ownBlock = some k → k ≠ w2.heap.size := ne_of_or hv6 (by (simp [Value.ownBlock]; done)) (by first | (simp; done) | (simp; omega)))); (try (have hx6 : BXF w2 w6 (w2.heap.size + 1) := BXF.grown (by (first | exact BXF.new (Nat.le_refl _) | exact (BXF.new (Nat.le_refl _)).alloc _ | exact ((BXF.new (Nat.le_refl _)).alloc _).drew | exact ((BXF.new (Nat.le_refl _)).drew).alloc _ | exact BXF.new1 | exact BXF.new1.drew)) hgr6 (by (simp [Value.ownBlock]; done)); have hn6 : ∀ k, (Value.slice A6 j c6).ownBlock = some k → k ≠ (w2.heap.size + 1) := ne_of_or hv6 (by (simp [Value.ownBlock]; done)) (by first | (simp; done) | (simp; omega)))))
              | (refine app_step rfl _ _ _ rfl w2.heap.size 70 i0 (.agg #[.int .i64 0, .int .i64 0]) 2 16 Try.underlying26 hi hz0 hz1 hz2 rfl (by decide) (.slice (some ⟨_, 0, none⟩) 0 0) 0 [] rfl ((((lit_at _ _ _ (by first | rfl | simp) (by first | exact Nat.le_refl _ | simp | (simp; omega)))).drew).alloc _) (some ⟨b, off, none⟩) j _ (flatW (L.take j)) rfl hT1 (src_takeW (HW.out _ (And.left (by assumption)))) (flatW_one _) hby1 hby2 (PD.sz (And.left (by assumption))) ?_; intro v' w6 hown6 hgr6 hv6; rw [Nat.zero_add, List.nil_append] at hown6; obtain ⟨A6, c6, rfl⟩ := own_val hown6; have hP6 : PD B w2 w6 := PD.grown (And.left (by assumption)) hgr6 (fun k hk => by simp [Value.ownBlock] at hk; subst hk; first | exact Nat.le_refl _ | simp | (simp; omega)); have o6 : w6.ownsRow w2.heap.size 70 2 (.slice A6 j c6) j (flatW (L.take j)) := hown6; (try (have hx6 : BXF w2 w6 w2.heap.size := BXF.grown (by (first | exact BXF.new (Nat.le_refl _) | exact (BXF.new (Nat.le_refl _)).alloc _ | exact ((BXF.new (Nat.le_refl _)).alloc _).drew | exact ((BXF.new (Nat.le_refl _)).drew).alloc _ | exact BXF.new1 | exact BXF.new1.drew)) hgr6 (by (simp [Value.ownBlock]; done)); have hn6 : ∀ k, (Value.slice A6 j c6).ownBlock = some k → k ≠ w2.heap.size := ne_of_or hv6 (by (simp [Value.ownBlock]; done)) (by first | (simp; done) | (simp; omega)))); (try (have hx6 : BXF w2 w6 (w2.heap.size + 1) := BXF.grown (by (first | exact BXF.new (Nat.le_refl _) | exact (BXF.new (Nat.le_refl _)).alloc _ | exact ((BXF.new (Nat.le_refl _)).alloc _).drew | exact ((BXF.new (Nat.le_refl _)).drew).alloc _ | exact BXF.new1 | exact BXF.new1.drew)) hgr6 (by (simp [Value.ownBlock]; done)); have hn6 : ∀ k, (Value.slice A6 j c6).ownBlock = some k → k ≠ (w2.heap.size + 1) := ne_of_or hv6 (by (simp [Value.ownBlock]; done)) (by first | (simp; done) | (simp; omega)))))
              | (refine app_step rfl _ _ _ rfl w2.heap.size 70 i0 (.agg #[.int .i64 0, .int .i64 0]) 2 16 Try.underlying26 hi hz0 hz1 hz2 rfl (by decide) (.slice A6 j c6) j (flatW (L.take j)) rfl (o6) _ (L.length - (j + 1)) _ (flatW (L.drop (j + 1))) rfl dropW_len (HD.out _ _ (And.left (by assumption))) (flatW_one _) hby3 hby4 (PD.sz (And.left (by assumption))) ?_; intro v' w7 hown7 hgr7 hv7; obtain ⟨A7, c7, rfl⟩ := own_val hown7; have hP7 : PD B w2 w7 := PD.grown (And.left (by assumption)) hgr7 (fun k hk => (o6.lt k hk).1); rw [erase_cat] at hown7; (try have hx7 := hx6.grown hgr7 (fun e => hn6 _ e rfl)); (try have hn7 := ne_of_or hv7 (fun e => hn6 _ e rfl) (by have := hx6.hi; omega)); (try obtain ⟨u0, r0⟩ := hx7.c0); (try obtain ⟨u1, r1⟩ := hx7.c1); (try have t0 := hx7.fz 0); (try have t1 := hx7.fz 1))
              | (refine app_step rfl _ _ _ rfl w2.heap.size 70 i0 (.agg #[.int .i64 0, .int .i64 0]) 2 16 Try.underlying26 hi hz0 hz1 hz2 rfl (by decide) (.slice A6 j c6) j (flatW (L.take j)) rfl (o6.drew) _ (L.length - (j + 1)) _ (flatW (L.drop (j + 1))) rfl dropW_len (HD.out _ _ (And.left (by assumption))) (flatW_one _) hby3 hby4 (PD.sz (And.left (by assumption))) ?_; intro v' w7 hown7 hgr7 hv7; obtain ⟨A7, c7, rfl⟩ := own_val hown7; have hP7 : PD B w2 w7 := PD.grown (And.left (by assumption)) hgr7 (fun k hk => (o6.lt k hk).1); rw [erase_cat] at hown7; (try have hx7 := hx6.grown hgr7 (fun e => hn6 _ e rfl)); (try have hn7 := ne_of_or hv7 (fun e => hn6 _ e rfl) (by have := hx6.hi; omega)); (try obtain ⟨u0, r0⟩ := hx7.c0); (try obtain ⟨u1, r1⟩ := hx7.c1); (try have t0 := hx7.fz 0); (try have t1 := hx7.fz 1))
              | (refine app_step rfl _ _ _ rfl w2.heap.size 70 i0 (.agg #[.int .i64 0, .int .i64 0]) 2 16 Try.underlying26 hi hz0 hz1 hz2 rfl (by decide) (.slice A6 j c6) j (flatW (L.take j)) rfl (o6.alloc _) _ (L.length - (j + 1)) _ (flatW (L.drop (j + 1))) rfl dropW_len (HD.out _ _ (And.left (by assumption))) (flatW_one _) hby3 hby4 (PD.sz (And.left (by assumption))) ?_; intro v' w7 hown7 hgr7 hv7; obtain ⟨A7, c7, rfl⟩ := own_val hown7; have hP7 : PD B w2 w7 := PD.grown (And.left (by assumption)) hgr7 (fun k hk => (o6.lt k hk).1); rw [erase_cat] at hown7; have hx7 := (BXF.new hP6.sz).grown hgr7 (fun e => by have := (o6.lt _ e).2; omega); have hn7 : ∀ k, (Value.slice A7 (j + (L.length - (j + 1))) c7).ownBlock = some k → k ≠ w6.heap.size := ne_of_or hv7 (fun e => by have := (o6.lt _ e).2; omega) (by simp); obtain ⟨u0, r0⟩ := hx7.c0; obtain ⟨u1, r1⟩ := hx7.c1; have t0 := hx7.fz 0; have t1 := hx7.fz 1)
              | (refine app_step rfl _ _ _ rfl w2.heap.size 70 i0 (.agg #[.int .i64 0, .int .i64 0]) 2 16 Try.underlying26 hi hz0 hz1 hz2 rfl (by decide) (.slice A6 j c6) j (flatW (L.take j)) rfl ((o6.alloc _).drew) _ (L.length - (j + 1)) _ (flatW (L.drop (j + 1))) rfl dropW_len (HD.out _ _ (And.left (by assumption))) (flatW_one _) hby3 hby4 (PD.sz (And.left (by assumption))) ?_; intro v' w7 hown7 hgr7 hv7; obtain ⟨A7, c7, rfl⟩ := own_val hown7; have hP7 : PD B w2 w7 := PD.grown (And.left (by assumption)) hgr7 (fun k hk => (o6.lt k hk).1); rw [erase_cat] at hown7; have hx7 := (BXF.new hP6.sz).grown hgr7 (fun e => by have := (o6.lt _ e).2; omega); have hn7 : ∀ k, (Value.slice A7 (j + (L.length - (j + 1))) c7).ownBlock = some k → k ≠ w6.heap.size := ne_of_or hv7 (fun e => by have := (o6.lt _ e).2; omega) (by simp); obtain ⟨u0, r0⟩ := hx7.c0; obtain ⟨u1, r1⟩ := hx7.c1; have t0 := hx7.fz 0; have t1 := hx7.fz 1)
              | (refine app_step rfl _ _ _ rfl w2.heap.size 70 i0 (.agg #[.int .i64 0, .int .i64 0]) 2 16 Try.underlying26 hi hz0 hz1 hz2 rfl (by decide) (.slice A6 j c6) j (flatW (L.take j)) rfl ((o6.drew).alloc _) _ (L.length - (j + 1)) _ (flatW (L.drop (j + 1))) rfl dropW_len (HD.out _ _ (And.left (by assumption))) (flatW_one _) hby3 hby4 (PD.sz (And.left (by assumption))) ?_; intro v' w7 hown7 hgr7 hv7; obtain ⟨A7, c7, rfl⟩ := own_val hown7; have hP7 : PD B w2 w7 := PD.grown (And.left (by assumption)) hgr7 (fun k hk => (o6.lt k hk).1); rw [erase_cat] at hown7; have hx7 := (BXF.new hP6.sz).grown hgr7 (fun e => by have := (o6.lt _ e).2; omega); have hn7 : ∀ k, (Value.slice A7 (j + (L.length - (j + 1))) c7).ownBlock = some k → k ≠ w6.heap.size := ne_of_or hv7 (fun e => by have := (o6.lt _ e).2; omega) (by simp); obtain ⟨u0, r0⟩ := hx7.c0; obtain ⟨u1, r1⟩ := hx7.c1; have t0 := hx7.fz 0; have t1 := hx7.fz 1))
          all_goals (go_wp2_with fail; go_meet)
          all_goals
            refine ⟨_, c7, A7, rfl, ?_⟩
            first
              | exact RCD.late hP7 hown7
              | exact RCD.early hP7 hx7 hown7 hn7
        obtain ⟨g, c7, A7, rfl, hR⟩ := hcut
        obtain ⟨_, q0, q1⟩ := id hR.box
        have o7 := hR.own
        have hel : (L.eraseIdx j).length = j + (L.length - (j + 1)) := by rw [List.length_eraseIdx, if_pos hjL]; omega
        have HEL := Lib.hid hel
        have eX := HX.out
        have eR := HR.out
        have eK := HK.out
        clear hel HS PA0 HW HD
        by_cases hG2 : NetG N (L.eraseIdx j)
        · have hd : DropOk N L j := ⟨hG0.out, ⟨by omega, by omega⟩, by simpa using hG2⟩
          rw [dropX_yes hd] at eX
          rw [dropL_yes hd, Int.toNat_natCast] at eR
          rw [dc_true hd] at eK
          clear hd HX HR HK hG0
          subst eX eR eK
          go_wp2_with fail
          refine (callB_yes (neGood_any N _ _ c7 _ _ HEL.out (by omega) (wis_of_own o7)) hG2).mono ?_
          rintro e w8 ⟨rfl, hb8⟩
          have hP8 := hR.pd.below hb8
          obtain ⟨u0, r0⟩ := hP8.c0
          obtain ⟨u1, r1⟩ := hP8.c1
          have t0 := hP8.fz 0
          have t1 := hP8.fz 1
          have b8 := hR.box.next hb8
          obtain ⟨_, q0, q1⟩ := id b8
          have hB8 := hbel.trans (hP8.bel.mono (show B ≤ B + 1 by omega))
          have o8 := own_keep o7 hb8
          clear hR
          go_wp2_with fail
          refine bodyPost_ret (v := .tuple #[.agg #[.int .i64 N, .slice A7 (j + (L.length - (j + 1))) c7], .bool true]) (by simp [results, Try.results13, go_sem, r0, r1]) rfl ?_
          have RR := ownsRow_setCell_below (ownsRow_setCell_below o8 (a := ⟨B + 1, 0, none⟩) hsz2 (.int .i64 N)) (a := ⟨B + 1, 1, none⟩) hsz2 (.slice A7 (j + (L.length - (j + 1))) c7)
          exact RetNet.mk HEL.out.symm (by rw [hB]; exact own_base RR (by omega)) (by rw [hB]; exact (hB8.setCell (p := ⟨B + 1, 0, none⟩) (by simp) _).setCell (p := ⟨B + 1, 1, none⟩) (by simp) _)
        · have hd : ¬ DropOk N L j := fun h => hG2 (by simpa using h.2.2)
          rw [dropX_no hd] at eX
          rw [dropL_no hd] at eR
          rw [dc_false hd] at eK
          clear hd HX HR HK hG0
          subst eX eR eK
          go_wp2_with fail
          refine (callB_no (neGood_any N _ _ c7 _ _ HEL.out (by omega) (wis_of_own o7)) hG2).mono ?_
          rintro e w8 ⟨rfl, hb8⟩
          have hP8 := hR.pd.below hb8
          obtain ⟨u0, r0⟩ := hP8.c0
          obtain ⟨u1, r1⟩ := hP8.c1
          have t0 := hP8.fz 0
          have t1 := hP8.fz 1
          have b8 := hR.box.next hb8
          obtain ⟨_, q0, q1⟩ := id b8
          have hB8 := hbel.trans (hP8.bel.mono (show B ≤ B + 1 by omega))
          have o8 := own_keep o7 hb8
          clear hR
          go_wp2_with fail
          refine bodyPost_ret (v := .tuple #[.agg #[.int .i64 0, .slice none 0 0], .bool false]) (by simp [results, Try.results13, go_sem, r0, r1]) rfl ?_
          exact RetNet.mk rfl (World.ownsRow_nil _ _ _ _) (by rw [hB]; exact (hB8.setCell (p := ⟨B + 1, 0, none⟩) (by simp) _).setCell (p := ⟨B + 1, 1, none⟩) (by simp) _)
    · have hno : ¬ DropOk N L k := fun h => hk (by have := h.2.1; omega)
      have d1 : Hid (inB k 0 ((L.length : Int) - 1) = false) := by show inB k 0 ((L.length : Int) - 1) = false; simp [inB]; omega
      have h30 := hG.2.1
      have e1 : IntKind.i64.wrap ((L.length : Int) - 1) = (L.length : Int) - 1 := IntWalk.i64_in _ (by omega)
      rw [dropX_no hno, dropL_no hno, dc_false hno]
      clear hno hk
      go_enter Try.func13, Try.ntmps13
      go_wp2_with fail
      rw [← hW1]
      clear hW1
      refine (callB_yes (neGood_any N A _ c L _ rfl hn (hL1.mono (Nat.le_of_lt hz1'))) hG).mono ?_
      rintro e w2 ⟨rfl, hb2⟩
      have Z3 := Z1.keep hb2
      clear Z1 hb2 n0 n1 hG hL1
      obtain ⟨hz, n0, n1⟩ := id Z3.box
      go_wp2_with fail
      refine (l1In_any _ _ _ _).mono ?_
      rw [d1.out]
      rintro e w3 ⟨rfl, rfl⟩
      obtain ⟨_, r0, r1⟩ := id Z3.res
      have t0 := Z3.fz 0
      have t1 := Z3.fz 1
      have hB2 := Z3.bel
      go_wp2_with fail
      refine bodyPost_ret (v := .tuple #[.agg #[.int .i64 0, .slice none 0 0], .bool false]) (by simp [results, Try.results13, go_sem, r0, r1]) rfl ?_
      exact RetNet.mk rfl (World.ownsRow_nil _ _ _ _) (by rw [hB]; exact (hB2.setCell (p := ⟨B + 1, 0, none⟩) (by simp) _).setCell (p := ⟨B + 1, 1, none⟩) (by simp) _)
  · have hno : ¬ DropOk N L k := fun h => hG h.1
    rw [dropX_no hno, dropL_no hno, dc_false hno]
    go_enter Try.func13, Try.ntmps13
    go_wp2_with fail
    rw [← hW1]
    clear hW1
    refine (callB_no (neGood_any N A _ c L _ rfl hn (hL1.mono (Nat.le_of_lt hz1'))) hG).mono ?_
    rintro e w2 ⟨rfl, hb2⟩
    have Z3 := Z1.keep hb2
    clear Z1 hL1 n0 n1 hno hb2
    obtain ⟨_, r0, r1⟩ := id Z3.res
    have t0 := Z3.fz 0
    have t1 := Z3.fz 1
    have hB2 := Z3.bel
    go_wp2_with fail
    refine bodyPost_ret (v := .tuple #[.agg #[.int .i64 0, .slice none 0 0], .bool false]) (by simp [results, Try.results13, go_sem, r0, r1]) rfl ?_
    exact RetNet.mk rfl (World.ownsRow_nil _ _ _ _) (by rw [hB]; exact (hB2.setCell (p := ⟨B + 1, 0, none⟩) (by simp) _).setCell (p := ⟨B + 1, 1, none⟩) (by simp) _)
end Go.Proofs.Ytfhbbidbbomagaa
