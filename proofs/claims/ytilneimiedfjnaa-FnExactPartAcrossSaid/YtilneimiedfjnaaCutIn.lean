/- cutIn of the program. -/
import Derived.Test.YtilneimiedfjnaaBesI
set_option linter.all false
namespace Go.Proofs.Ytilneimiedfjnaa
open Go.RowKit

/-- Is a square within so wide and so high a rectangle? -/
def wiB (aw ah : Int) (s : Sq) : Bool := decide (1 ≤ s.d ∧ 0 ≤ s.x ∧ s.x ≤ aw - s.d ∧ 0 ≤ s.y ∧ s.y ≤ ah - s.d)
def ciL (ax ay aw ah : Int) (L : List Sq) : List Sq := (J.mvL (-ax) (-ay) L).filter (wiB aw ah)
theorem filt_succ {p : Sq → Bool} (M : List Sq) (j : Nat) (s : Sq) (h : M[j]? = some s) : (M.take (j + 1)).filter p = (M.take j).filter p ++ (if p s then [s] else []) := by
  rw [List.take_add_one, h, Option.toList_some, List.filter_append]
  congr 1
  by_cases hp : p s <;> simp [hp]
/-- What the loop keeps. -/
structure CI (w : World) (z : Nat) (aw ah : Int) (Am : Option Addr) (cm : Nat) (M : List Sq) (A2 : Option Addr) (k c2 : Nat) (R : List Sq) (wr : World) : Prop where
  below : Below w.heap.size w wr
  size : z ≤ wr.heap.size
  z4 : w.heap.size + 4 ≤ z
  a2 : wr.cell? ⟨w.heap.size + 1, 2, none⟩ = some (.int .i64 aw)
  a3 : wr.cell? ⟨w.heap.size + 1, 3, none⟩ = some (.int .i64 ah)
  b0 : wr.cell? ⟨w.heap.size + 3, 0, none⟩ = some (.int .i64 aw)
  b1 : wr.cell? ⟨w.heap.size + 3, 1, none⟩ = some (.int .i64 ah)
  b2 : wr.cell? ⟨w.heap.size + 3, 2, none⟩ = some (.slice A2 k c2)
  t2 : wr.frozen? ⟨w.heap.size + 3, 2, none⟩ = false
  r : ∃ v0 v1 v2, wr.cell? ⟨w.heap.size + 2, 0, none⟩ = some v0 ∧ wr.cell? ⟨w.heap.size + 2, 1, none⟩ = some v1 ∧ wr.cell? ⟨w.heap.size + 2, 2, none⟩ = some v2
  f : ∀ o, wr.frozen? ⟨w.heap.size + 2, o, none⟩ = false
  om : wr.ownsRow (w.heap.size + 4) 65 3 (.slice Am M.length cm) M.length (flat M)
  lm : ∀ g, Value.ownBlock (.slice Am M.length cm) = some g → g < z
  own : wr.ownsRow z 65 3 (.slice A2 k c2) k (flat R)
theorem CI.next {w : World} {z : Nat} {aw ah : Int} {Am A2 : Option Addr} {cm k c2 : Nat} {M R : List Sq} {wr w' : World} (h : CI w z aw ah Am cm M A2 k c2 R wr) (hb : Below wr.heap.size wr w') : CI w z aw ah Am cm M A2 k c2 R w' := by
  have h4 := h.z4
  have hz := h.size
  exact ⟨h.below.trans (hb.mono h.below.size), Nat.le_trans hz hb.size, h4, (hb.cell (p := ⟨_, _, none⟩) (by show w.heap.size + 1 < _; omega)).trans h.a2, (hb.cell (p := ⟨_, _, none⟩) (by show w.heap.size + 1 < _; omega)).trans h.a3, (hb.cell (p := ⟨_, _, none⟩) (by show w.heap.size + 3 < _; omega)).trans h.b0, (hb.cell (p := ⟨_, _, none⟩) (by show w.heap.size + 3 < _; omega)).trans h.b1, (hb.cell (p := ⟨_, _, none⟩) (by show w.heap.size + 3 < _; omega)).trans h.b2, (hb.frozen (p := ⟨_, _, none⟩) (by show w.heap.size + 3 < _; omega)).trans h.t2, (by obtain ⟨v0, v1, v2, e0, e1, e2⟩ := h.r; exact ⟨v0, v1, v2, (hb.cell (p := ⟨_, _, none⟩) (by show w.heap.size + 2 < _; omega)).trans e0, (hb.cell (p := ⟨_, _, none⟩) (by show w.heap.size + 2 < _; omega)).trans e1, (hb.cell (p := ⟨_, _, none⟩) (by show w.heap.size + 2 < _; omega)).trans e2⟩), fun o => (hb.frozen (p := ⟨_, _, none⟩) (by show w.heap.size + 2 < _; omega)).trans (h.f o), own_keep h.om hb, h.lm, own_keep h.own hb⟩
/-- After the append, and the store of what it gave. -/
theorem CI.put {w : World} {z : Nat} {aw ah : Int} {Am A2 A3 : Option Addr} {cm k c2 k' c3 : Nat} {M R R' : List Sq} {wr w' : World} (h : CI w z aw ah Am cm M A2 k c2 R wr) (hg : wr.grownBy w' (Value.ownBlock (.slice A2 k c2))) (ho : w'.ownsRow z 65 3 (.slice A3 k' c3) k' (flat R')) : CI w z aw ah Am cm M A3 k' c3 R' (w'.setCell ⟨w.heap.size + 3, 2, none⟩ (.slice A3 k' c3)) := by
  have h4 := h.z4
  have hz := h.size
  have hrow : ∀ g, Value.ownBlock (.slice A2 k c2) = some g → z ≤ g := fun g e => (h.own.lt g e).1
  have hne : ∀ i, i < z → some i ≠ Value.ownBlock (.slice A2 k c2) := fun i hi e => by have := hrow i e.symm; omega
  have hs : wr.heap.size ≤ w'.heap.size := hg.size
  have hB : Below z wr w' := (Below.refl _ _).grown hg hz hrow
  have hc : ∀ {p : Addr} {v : Value}, p.block < z → p ≠ ⟨w.heap.size + 3, 2, none⟩ → wr.cell? p = some v → (w'.setCell ⟨w.heap.size + 3, 2, none⟩ (.slice A3 k' c3)).cell? p = some v := fun hp hn e => 
    (World.cell?_setCell_other _ _ _ _ (fun e => hn (by rw [e]))).trans ((hB.cell hp).trans e)
  refine ⟨(h.below.trans (hB.mono (by omega))).setCell (p := ⟨w.heap.size + 3, 2, none⟩) (by simp) _, by simp; omega, h4, hc (by show w.heap.size + 1 < _; omega) (by simp) h.a2, hc (by show w.heap.size + 1 < _; omega) (by simp) h.a3, hc (by show w.heap.size + 3 < _; omega) (by simp) h.b0, hc (by show w.heap.size + 3 < _; omega) (by simp) h.b1, ?_, ?_, (by obtain ⟨v0, v1, v2, e0, e1, e2⟩ := h.r; exact ⟨v0, v1, v2, hc (by show w.heap.size + 2 < _; omega) (by simp) e0, hc (by show w.heap.size + 2 < _; omega) (by simp) e1, hc (by show w.heap.size + 2 < _; omega) (by simp) e2⟩), (fun o => by rw [World.frozen?_setCell]; exact (hB.frozen (p := ⟨_, _, none⟩) (by show w.heap.size + 2 < _; omega)).trans (h.f o)), ?_, h.lm, ownsRow_setCell_below ho (by show w.heap.size + 3 < _; omega) _⟩
  · exact World.cell?_setCell_same _ _ _ ((hB.cell (p := ⟨w.heap.size + 3, 2, none⟩) (by show w.heap.size + 3 < _; omega)).trans h.b2)
  · rw [World.frozen?_setCell]; exact (hB.frozen (p := ⟨w.heap.size + 3, 2, none⟩) (by show w.heap.size + 3 < _; omega)).trans h.t2
  · refine ownsRow_setCell_below (h.om.kept hg ?_) (by show w.heap.size + 3 < _; omega) _
    cases e : Value.ownBlock (.slice Am M.length cm) with
    | none => exact .inl rfl
    | some g => exact .inr (hne g (h.lm g e))

def RetCI (w : World) (aw ah : Int) (R : List Sq) (e : Ending) (w' : World) : Prop :=
  ∃ A c, e = .returned (.agg #[.int .i64 aw, .int .i64 ah, .slice A R.length c]) ∧ w'.ownsRow w.heap.size 65 3 (.slice A R.length c) R.length (flat R) ∧ Below w.heap.size w w'
set_option maxRecDepth 100000 in
set_option maxHeartbeats 4000000 in
theorem cutIn_any (W H : Int) (A : Option Addr) (n c : Nat) (L : List Sq) (ax ay aw ah : Int) (w : World) (hl : L.length = n) (hn : n ≤ 60) (hL : SqsAt w w.heap.size A L) (hsm : ∀ s ∈ L, SmallS s)
  (hx : 0 ≤ ax ∧ ax ≤ 500) (hy : 0 ≤ ay ∧ ay ≤ 500) (hw : 0 ≤ aw ∧ aw ≤ 500) (hh : 0 ≤ ah ∧ ah ≤ 500) :
    Calls Try.prog 111 #[.agg #[.int .i64 W, .int .i64 H, .slice A n c], .agg #[.int .i64 ax, .int .i64 ay, .int .i64 aw, .int .i64 ah]] w (RetCI w aw ah (ciL ax ay aw ah L)) := by
  subst hl
  obtain ⟨i0, hi, hz0, hz1, hz2⟩ := info_parts infoSq
  have wx : IntKind.i64.wrap (-ax) = -ax := IntWalk.i64_in _ (by omega)
  have wy : IntKind.i64.wrap (-ay) = -ay := IntWalk.i64_in _ (by omega)
  go_enter Try.func111, Try.ntmps111
  go_wp2_with fail
  obtain ⟨wa, ha⟩ : ∃ x, x = w.alloc (.cells #[.int .i64 W, .int .i64 H, .slice A L.length c] 29) := ⟨_, rfl⟩
  obtain ⟨wb, hwb⟩ : ∃ x, x = wa.alloc (.cells #[.int .i64 ax, .int .i64 ay, .int .i64 aw, .int .i64 ah] 117) := ⟨_, rfl⟩
  obtain ⟨wc, hwc⟩ : ∃ x, x = wb.alloc (.cells #[.int .i64 0, .int .i64 0, .slice none 0 0] 29) := ⟨_, rfl⟩
  obtain ⟨W1, hW1⟩ : ∃ x, x = wc.alloc (.cells #[.int .i64 aw, .int .i64 ah, .slice none 0 0] 29) := ⟨_, rfl⟩
  have za : wa.heap.size = w.heap.size + 1 := by rw [ha]; simp
  have zb : wb.heap.size = w.heap.size + 2 := by rw [hwb]; simp [za]
  have zc : wc.heap.size = w.heap.size + 3 := by rw [hwc]; simp [zb]
  have z1 : W1.heap.size = w.heap.size + 4 := by rw [hW1]; simp [zc]
  have Ba : Below w.heap.size w wa := by rw [ha]; exact (Below.refl _ _).alloc (Nat.le_refl _) _
  have Bb : Below wa.heap.size wa wb := by rw [hwb]; exact (Below.refl _ _).alloc (Nat.le_refl _) _
  have Bc : Below wb.heap.size wb wc := by rw [hwc]; exact (Below.refl _ _).alloc (Nat.le_refl _) _
  have Bd : Below wc.heap.size wc W1 := by rw [hW1]; exact (Below.refl _ _).alloc (Nat.le_refl _) _
  have Bbd : Below wb.heap.size wb W1 := Bc.trans (Bd.mono (by omega))
  have hB1 : Below w.heap.size w W1 := Ba.trans ((Bb.mono (by omega)).trans (Bbd.mono (by omega)))
  have x2 : W1.cell? ⟨wa.heap.size, 2, none⟩ = some (.int .i64 aw) := (Bbd.cell (p := ⟨_, _, none⟩) (by show wa.heap.size < _; omega)).trans (by rw [hwb]; simp)
  have x3 : W1.cell? ⟨wa.heap.size, 3, none⟩ = some (.int .i64 ah) := (Bbd.cell (p := ⟨_, _, none⟩) (by show wa.heap.size < _; omega)).trans (by rw [hwb]; simp)
  have y0 : W1.cell? ⟨wc.heap.size, 0, none⟩ = some (.int .i64 aw) := by rw [hW1]; simp
  have y1 : W1.cell? ⟨wc.heap.size, 1, none⟩ = some (.int .i64 ah) := by rw [hW1]; simp
  have y2 : W1.cell? ⟨wc.heap.size, 2, none⟩ = some (.slice none 0 0) := by rw [hW1]; simp
  have yf : W1.frozen? ⟨wc.heap.size, 2, none⟩ = false := by rw [hW1]; exact World.frozen?_alloc_at _ _ _ _ (by simp)
  have r0 : W1.cell? ⟨wb.heap.size, 0, none⟩ = some (.int .i64 0) := (Bd.cell (p := ⟨_, _, none⟩) (by show wb.heap.size < _; omega)).trans (by rw [hwc]; simp)
  have r1 : W1.cell? ⟨wb.heap.size, 1, none⟩ = some (.int .i64 0) := (Bd.cell (p := ⟨_, _, none⟩) (by show wb.heap.size < _; omega)).trans (by rw [hwc]; simp)
  have r2 : W1.cell? ⟨wb.heap.size, 2, none⟩ = some (.slice none 0 0) := (Bd.cell (p := ⟨_, _, none⟩) (by show wb.heap.size < _; omega)).trans (by rw [hwc]; simp)
  have f0 : ∀ o, W1.frozen? ⟨wb.heap.size, o, none⟩ = false := fun o => (Bd.frozen (p := ⟨_, _, none⟩) (by show wb.heap.size < _; omega)).trans (by rw [hwc]; exact World.frozen?_alloc_at _ _ _ _ (by simp))
  rw [za] at x2 x3
  rw [zc] at y0 y1 y2 yf
  rw [zb] at r0 r1 r2 f0
  rw [← ha, ← hwb, ← hwc, ← hW1]
  clear hW1 hwc hwb ha Ba Bb Bc Bd Bbd za zb zc
  refine (moved_any A L.length c L (-ax) (-ay) W1 rfl (by omega) ((hL.below hB1).mono hB1.size) hsm (by omega) (by omega)).mono ?_
  rintro e w2 ⟨Am, cm, rfl, om, hb2⟩
  have lgm : (J.mvL (-ax) (-ay) L).length = L.length := J.mvL_len _ _ L
  have hmem : ∀ s ∈ J.mvL (-ax) (-ay) L, s.d ≤ 1000000 := fun s hs => by
    obtain ⟨r, hr, rfl⟩ := List.mem_map.1 hs
    have := hsm r hr; unfold SmallS at this; simp only [J.mvS]; omega
  obtain ⟨M, hM⟩ : ∃ M, M = J.mvL (-ax) (-ay) L := ⟨_, rfl⟩
  have hR : ciL ax ay aw ah L = M.filter (wiB aw ah) := by rw [hM]; rfl
  have HR := Lib.hid hR
  rw [← hM] at om lgm hmem ⊢
  have hz := hb2.size
  have C0 : CI w w2.heap.size aw ah Am cm M none 0 0 [] w2 := ⟨hB1.trans (hb2.mono hB1.size), Nat.le_refl _, by omega, (hb2.cell (p := ⟨_, _, none⟩) (by show w.heap.size + 1 < _; omega)).trans x2, (hb2.cell (p := ⟨_, _, none⟩) (by show w.heap.size + 1 < _; omega)).trans x3, (hb2.cell (p := ⟨_, _, none⟩) (by show w.heap.size + 3 < _; omega)).trans y0, (hb2.cell (p := ⟨_, _, none⟩) (by show w.heap.size + 3 < _; omega)).trans y1, (hb2.cell (p := ⟨_, _, none⟩) (by show w.heap.size + 3 < _; omega)).trans y2, (hb2.frozen (p := ⟨_, _, none⟩) (by show w.heap.size + 3 < _; omega)).trans yf, ⟨_, _, _, (hb2.cell (p := ⟨_, _, none⟩) (by show w.heap.size + 2 < _; omega)).trans r0, (hb2.cell (p := ⟨_, _, none⟩) (by show w.heap.size + 2 < _; omega)).trans r1, (hb2.cell (p := ⟨_, _, none⟩) (by show w.heap.size + 2 < _; omega)).trans r2⟩, (fun o => (hb2.frozen (p := ⟨_, _, none⟩) (by show w.heap.size + 2 < _; omega)).trans (f0 o)), own_base om (by omega), fun g e => (om.lt g e).2, World.ownsRow_nil _ _ _ _⟩
  have hM60 : M.length ≤ 60 := by omega
  obtain ⟨z, hzz⟩ : ∃ z, z = w2.heap.size := ⟨_, rfl⟩
  rw [← hzz] at C0
  clear r0 r1 r2 f0 hM hR om hb2 hB1 x2 x3 y0 y1 y2 yf hsm hzz hL lgm hz
  go_wp2_with fail
  go_loopw [23] (fun iv wr => ∃ j : Nat, j ≤ M.length ∧ iv = .int .i64 j ∧ ∃ A2 c2, CI w z aw ah Am cm M A2 ((M.take j).filter (wiB aw ah)).length c2 ((M.take j).filter (wiB aw ah)) wr) (fun i _ => M.length - (intOf i).toNat)
  case atStart => exact ⟨0, Nat.zero_le _, rfl, none, 0, by simpa using C0⟩
  case round =>
    obtain ⟨j, hj, rfl, A2, c2, K⟩ := hrel
    clear C0
    by_cases hlt : j < M.length
    · obtain ⟨s, hs⟩ : ∃ s, M[j]? = some s := ⟨_, List.getElem?_eq_getElem hlt⟩
      obtain ⟨b, off, rfl, hb, c0, c1, c2'⟩ := sqs_of_own K.om j s hs
      have jz : (0 : Int) ≤ (j : Int) := by omega
      have jl : (j : Int) < (M.length : Int) := by omega
      have hFs := filt_succ (p := wiB aw ah) M j s hs
      have hds := hmem s (List.mem_of_getElem? hs)
      have hk : ((M.take j).filter (wiB aw ah)).length ≤ 60 := Nat.le_trans (List.length_filter_le _ _) (by rw [List.length_take]; omega)
      obtain ⟨R, hRR⟩ : ∃ R, (M.take j).filter (wiB aw ah) = R := ⟨_, rfl⟩
      rw [hRR] at K hk hFs
      have HF := Lib.hid hFs
      clear hs hFs hRR hmem
      obtain ⟨k, hkk⟩ : ∃ k, R.length = k := ⟨_, rfl⟩
      rw [hkk] at K hk
      have HK := Lib.hid K
      have a2 := K.a2
      have a3 := K.a3
      have hzr : w.heap.size + 4 ≤ wr.heap.size := Nat.le_trans K.z4 K.size
      have hlt1 : w.heap.size + 1 < wr.heap.size := by omega
      clear K
      go_wp2_with fail
      obtain ⟨w3, hw3⟩ : ∃ x, x = wr.alloc (.cells #[.int .i64 s.x, .int .i64 s.y, .int .i64 s.d] 65) := ⟨_, rfl⟩
      have hb3 : Below wr.heap.size wr w3 := by rw [hw3]; exact (Below.refl _ _).alloc (Nat.le_refl _) _
      have q0 : w3.cell? ⟨wr.heap.size, 0, none⟩ = some (.int .i64 s.x) := by rw [hw3]; simp
      have q1 : w3.cell? ⟨wr.heap.size, 1, none⟩ = some (.int .i64 s.y) := by rw [hw3]; simp
      have q2 : w3.cell? ⟨wr.heap.size, 2, none⟩ = some (.int .i64 s.d) := by rw [hw3]; simp
      have hz3 : wr.heap.size < w3.heap.size := by rw [hw3]; simp
      have K3 := HK.out.next hb3
      rw [← hw3]
      clear hw3 a2 a3 c0 c1 c2' hb HK hb3
      by_cases hp : 1 ≤ s.d ∧ 0 ≤ s.x ∧ s.x ≤ aw - s.d ∧ 0 ≤ s.y ∧ s.y ≤ ah - s.d
      · refine (callB_yes (isWithin_any s.x s.y s.d aw ah (by omega) (by omega) (by omega) (by omega) (by omega) w3) hp).mono ?_
        rintro e w4 ⟨rfl, hb4⟩
        have K4 := K3.next hb4
        have p0 := (hb4.cell (p := ⟨_, _, none⟩) (by show wr.heap.size < _; omega)).trans q0
        have p1 := (hb4.cell (p := ⟨_, _, none⟩) (by show wr.heap.size < _; omega)).trans q1
        have p2 := (hb4.cell (p := ⟨_, _, none⟩) (by show wr.heap.size < _; omega)).trans q2
        have hz4 := hb4.size
        have hw : wiB aw ah s = true := by simpa [wiB] using hp
        have HF2 := Lib.hid (HF.out.trans (by rw [if_pos hw]))
        clear K3 q0 q1 q2 hb4 hp hw HF
        have HK4 := Lib.hid K4
        have b2 := K4.b2
        have t2 := K4.t2
        have hown := K4.own
        have hzz := K4.size
        have hz5 := K4.z4
        have hbl : k + 1 ≤ maxLen := by unfold maxLen; omega
        have hby : (k + 1) * 24 ≤ 140737488355328 := by omega
        clear K4
        go_wp2_with (at_builtin; refine app_list rfl _ _ _ rfl z 65 i0 (.agg #[.int .i64 0, .int .i64 0, .int .i64 0]) 3 24 Try.underlying27 hi hz0 hz1 hz2 rfl (by decide) (.slice A2 k c2) k _ rfl (hown.alloc _) (some ⟨w4.heap.size, 0, none⟩) 1 1 [.int .i64 s.x, .int .i64 s.y, .int .i64 s.d] rfl rfl (.inr ⟨_, rfl, new3 _ _ _ _ _⟩) (one3 _ _ _) hbl hby (by simp; omega) ?_; intro v' w6 hown6 hgrow hv6; obtain ⟨A3, c3, rfl⟩ := own_val hown6; have hB6 : Below z w4 w6 := ((Below.refl _ _).alloc hzz _).grown hgrow (by simp; omega) (fun kk e => (hown.lt kk e).1); have b3 := (hB6.cell (p := ⟨w.heap.size + 3, 2, none⟩) (by show w.heap.size + 3 < _; omega)).trans b2; have t3 := (hB6.frozen (p := ⟨w.heap.size + 3, 2, none⟩) (by show w.heap.size + 3 < _; omega)).trans t2; clear b2 t2)
        have K6 := (HK4.out.next ((Below.refl _ _).alloc (Nat.le_refl _) (.cells #[.int .i64 s.x, .int .i64 s.y, .int .i64 s.d] 65))).put (R' := R ++ [s]) hgrow (by rw [flat_app]; exact hown6)
        go_roundw
        case rel => exact ⟨j + 1, by omega, by go_num, A3, c3, by rw [HF2.out, List.length_append, hkk]; exact K6⟩
        case measure => simp [intOf]; omega
      · refine (callB_no (isWithin_any s.x s.y s.d aw ah (by omega) (by omega) (by omega) (by omega) (by omega) w3) hp).mono ?_
        rintro e w4 ⟨rfl, hb4⟩
        have K4 := K3.next hb4
        have hw : wiB aw ah s = false := by simpa [wiB] using hp
        have HF2 := Lib.hid (HF.out.trans (by rw [if_neg (by simp [hw]), List.append_nil]))
        have HK4 := Lib.hid K4
        clear K3 q0 q1 q2 hb4 hp hw HF K4
        go_wp2_with fail
        go_roundw
        case rel => exact ⟨j + 1, by omega, by go_num, A2, c2, by rw [HF2.out, hkk]; exact HK4.out⟩
        case measure => simp [intOf]; omega
    · obtain rfl : j = M.length := by omega
      rw [List.take_of_length_le (Nat.le_refl _)] at K
      have HK := Lib.hid K
      have b0 := K.b0
      have b1 := K.b1
      have b2 := K.b2
      have ⟨v0, v1, v2, r0, r1, r2⟩ := K.r
      have t0 := K.f 0
      have t1 := K.f 1
      have t2 := K.f 2
      have hzr : w.heap.size + 4 ≤ wr.heap.size := Nat.le_trans K.z4 K.size
      clear K
      go_wp2_with fail
      have hB := ((HK.out.below.setCell (p := ⟨w.heap.size + 2, 0, none⟩) (by simp) (.int .i64 aw)).setCell (p := ⟨w.heap.size + 2, 1, none⟩) (by simp) (.int .i64 ah)).setCell (p := ⟨w.heap.size + 2, 2, none⟩) (by simp) (.slice A2 (M.filter (wiB aw ah)).length c2)
      have hO := ownsRow_setCell_below (ownsRow_setCell_below (ownsRow_setCell_below (own_base HK.out.own (base' := w.heap.size + 3) (by have := HK.out.z4; omega)) (a := ⟨w.heap.size + 2, 0, none⟩) (by simp) (.int .i64 aw)) (a := ⟨w.heap.size + 2, 1, none⟩) (by simp) (.int .i64 ah)) (a := ⟨w.heap.size + 2, 2, none⟩) (by simp) (.slice A2 (M.filter (wiB aw ah)).length c2)
      refine bodyPost_ret (v := .agg #[.int .i64 aw, .int .i64 ah, .slice A2 (M.filter (wiB aw ah)).length c2]) (by simp [results, Try.results111, go_sem, r0, r1, r2]) rfl ?_
      rw [HR.out]
      exact ⟨A2, c2, rfl, own_base hO (base' := w.heap.size) (Nat.le_add_right _ 3), hB⟩
end Go.Proofs.Ytilneimiedfjnaa
