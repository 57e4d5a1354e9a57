/- Words of squares: the program's putOn. -/
import Derived.Test.YtlfikjjdhmaemaaPutG
import Derived.Test.YtlfikjjdhmaemaaApp
set_option linter.all false
namespace Go.Proofs.Ytlfikjjdhmaemaa
open Go.RowKit

theorem iter_grown {w : World} {k : Nat} (s : ByteArray) (pos : Nat) : w.grownBy (w.iterAt k s pos) (some k) :=
  ⟨rfl, rfl, rfl, by rw [Lib.iterAt_size]; exact Nat.le_refl _, fun j _ hj => Lib.iterAt_other w k j s pos (fun e => hj (by rw [e]))⟩
/-- The memory of putOn: the result, the first square, the cut under way, the place in the word. -/
structure PM (w0 wr : World) (s : ByteArray) (pos : Nat) (a b : Int) (A : Option Addr) (k c : Nat) (L : List Sq) : Prop where
  q : Bx w0.heap.size wr 0 0 none 0 0
  qf : ∀ o, wr.frozen? ⟨w0.heap.size, o, none⟩ = false
  b : Bx (w0.heap.size + 2) wr a b A k c
  bf : ∀ o, wr.frozen? ⟨w0.heap.size + 2, o, none⟩ = false
  it : wr.heap[w0.heap.size + 3]? = some (.stringIter s pos)
  sq : wr.ownsRow (w0.heap.size + 1) 65 3 (.slice A k c) k (flat L)
  ne : ∀ j, (Value.slice A k c).ownBlock = some j → j ≠ w0.heap.size + 2 ∧ j ≠ w0.heap.size + 3
  len : L.length = k
  below : Below w0.heap.size w0 wr
theorem PM.big {w0 wr : World} {s : ByteArray} {pos : Nat} {a b : Int} {A : Option Addr} {k c : Nat} {L : List Sq} (h : PM w0 wr s pos a b A k c L) : w0.heap.size + 3 < wr.heap.size := (Array.getElem?_eq_some_iff.1 h.it).1
theorem PM.keep {w0 wr w' : World} {s : ByteArray} {pos : Nat} {a b : Int} {A : Option Addr} {k c : Nat} {L : List Sq} (h : PM w0 wr s pos a b A k c L) (hb : Below wr.heap.size wr w') : PM w0 w' s pos a b A k c L :=
  ⟨h.q.next hb, fun o => (hb.frozen (p := ⟨w0.heap.size, o, none⟩) h.q.lt).trans (h.qf o), h.b.next hb, fun o => (hb.frozen (p := ⟨w0.heap.size + 2, o, none⟩) h.b.lt).trans (h.bf o), (hb.block _ h.big).trans h.it, own_keep h.sq hb, h.ne, h.len, h.below.trans (hb.mono h.below.size)⟩
theorem PM.iter {w0 wr : World} {s : ByteArray} {pos : Nat} {a b : Int} {A : Option Addr} {k c : Nat} {L : List Sq} (h : PM w0 wr s pos a b A k c L) (p : Nat) : PM w0 (wr.iterAt (w0.heap.size + 3) s p) s p a b A k c L := by
  have hg := iter_grown (w := wr) (k := w0.heap.size + 3) s p
  have hbig := h.big
  refine ⟨h.q.far hg (by simp), fun o => (hg.frozen_far ⟨w0.heap.size, o, none⟩ h.q.lt (by simp)).trans (h.qf o), h.b.far hg (by simp), fun o => (hg.frozen_far ⟨w0.heap.size + 2, o, none⟩ h.b.lt (by simp)).trans (h.bf o), Lib.iterAt_heap _ _ _ _ _ h.it, own_far h.sq hg (fun j hj e => (h.ne j hj).2 (by simpa using e.symm)), h.ne, h.len, Lib.below_iterAt h.below (by omega) _ _⟩
theorem PM.far {w0 wr w4 w6 : World} {s : ByteArray} {pos : Nat} {a b : Int} {A : Option Addr} {k c : Nat} {L : List Sq} (h : PM w0 wr s pos a b A k c L) (hb : Below wr.heap.size wr w4) (hg : w4.grownBy w6 (Value.slice A k c).ownBlock) :
    Bx (w0.heap.size + 2) w6 a b A k c ∧ ∀ o, w6.frozen? ⟨w0.heap.size + 2, o, none⟩ = false := by
  have h' := h.keep hb
  exact ⟨h'.b.far hg (fun e => (h.ne _ e).1 rfl), fun o => (hg.frozen_far ⟨w0.heap.size + 2, o, none⟩ h'.b.lt (fun e => (h.ne _ e.symm).1 rfl)).trans (h'.bf o)⟩
theorem put_grown' (w : World) (a : Addr) (v : Value) : w.grownBy (w.setCell a v) (some a.block) :=
  ⟨rfl, rfl, rfl, by simp, fun k _ hk => Below.heap_setCell _ _ _ k (fun e => hk (by rw [e]))⟩
theorem PM.set {w0 wr : World} {s : ByteArray} {pos : Nat} {a b a' b' : Int} {A : Option Addr} {k c : Nat} {L : List Sq} (h : PM w0 wr s pos a b A k c L) (o : Nat) (v : Value)
    (hb : Bx (w0.heap.size + 2) (wr.setCell ⟨w0.heap.size + 2, o, none⟩ v) a' b' A k c) : PM w0 (wr.setCell ⟨w0.heap.size + 2, o, none⟩ v) s pos a' b' A k c L := by
  have hg := put_grown' wr ⟨w0.heap.size + 2, o, none⟩ v
  have hbig := h.big
  exact ⟨h.q.far hg (by simp), fun o => (hg.frozen_far ⟨w0.heap.size, o, none⟩ h.q.lt (by simp)).trans (h.qf o), hb, fun o' => by simpa [go_sem] using h.bf o', (hg.block _ hbig (by simp)).trans h.it, own_far h.sq hg (fun j hj e => (h.ne j hj).1 (by simpa using e.symm)), h.ne, h.len, h.below.setCell (p := ⟨w0.heap.size + 2, o, none⟩) (by simp) _⟩
theorem PM.setA {w0 wr : World} {s : ByteArray} {pos : Nat} {a b : Int} {A : Option Addr} {k c : Nat} {L : List Sq} (h : PM w0 wr s pos a b A k c L) (a' : Int) : PM w0 (wr.setCell ⟨w0.heap.size + 2, 0, none⟩ (.int .i64 a')) s pos a' b A k c L := by
  obtain ⟨h0, h1, h2, h3⟩ := h.b
  exact h.set 0 _ ⟨Nat.lt_of_lt_of_le h0 (put_grown' _ _ _).size, by simp [go_sem, h1], by simp [go_sem, h2], by simp [go_sem, h3]⟩
theorem PM.setB {w0 wr : World} {s : ByteArray} {pos : Nat} {a b : Int} {A : Option Addr} {k c : Nat} {L : List Sq} (h : PM w0 wr s pos a b A k c L) (b' : Int) : PM w0 (wr.setCell ⟨w0.heap.size + 2, 1, none⟩ (.int .i64 b')) s pos a b' A k c L := by
  obtain ⟨h0, h1, h2, h3⟩ := h.b
  exact h.set 1 _ ⟨Nat.lt_of_lt_of_le h0 (put_grown' _ _ _).size, by simp [go_sem, h1], by simp [go_sem, h2], by simp [go_sem, h3]⟩
theorem PM.push {w0 wr w4 w6 : World} {s : ByteArray} {pos : Nat} {a b : Int} {A A6 : Option Addr} {k c c6 : Nat} {L : List Sq} {q : Sq} (h : PM w0 wr s pos a b A k c L) (hb : Below wr.heap.size wr w4) (hg : w4.grownBy w6 (Value.slice A k c).ownBlock)
    (ho : w6.ownsRow (w0.heap.size + 1) 65 3 (.slice A6 (k + 1) c6) (k + 1) (flat L ++ [.int .i64 q.x, .int .i64 q.y, .int .i64 q.d]))
    (hv : (Value.slice A6 (k + 1) c6).ownBlock = (Value.slice A k c).ownBlock ∨ (Value.slice A6 (k + 1) c6).ownBlock = some w4.heap.size) (_hz : wr.heap.size ≤ w4.heap.size) :
    PM w0 (w6.setCell ⟨w0.heap.size + 2, 2, none⟩ (.slice A6 (k + 1) c6)) s pos a b A6 (k + 1) c6 (L ++ [q]) := by
  have h' := h.keep hb
  have hbig := h'.big
  have hN : ∀ j, (Value.slice A6 (k + 1) c6).ownBlock = some j → j ≠ w0.heap.size + 2 ∧ j ≠ w0.heap.size + 3 := fun j hj => by
    rcases hv with e | e
    · exact h.ne j (e ▸ hj)
    · rw [hj] at e; cases e; omega
  have q6 := h'.q.far hg (fun e => by have := (h.sq.lt _ e).1; omega)
  have b6 := h'.b.far hg (fun e => (h.ne _ e).1 rfl)
  have f6 : ∀ o, w6.frozen? ⟨w0.heap.size + 2, o, none⟩ = false := fun o => (hg.frozen_far ⟨w0.heap.size + 2, o, none⟩ h'.b.lt (fun e => (h.ne _ e.symm).1 rfl)).trans (h'.bf o)
  have g6 := put_grown' w6 ⟨w0.heap.size + 2, 2, none⟩ (.slice A6 (k + 1) c6)
  have i6 : w6.heap[w0.heap.size + 3]? = some (.stringIter s pos) := (hg.block _ hbig (fun e => (h.ne _ e.symm).2 rfl)).trans h'.it
  have hs6 : w0.heap.size + 3 < w6.heap.size := (Array.getElem?_eq_some_iff.1 i6).1
  have bl6 : Below w0.heap.size w0 w6 := h'.below.trans (below_of_grown hg h'.below.size (fun j hj => by have := (h.sq.lt _ hj).1; omega))
  refine ⟨q6.far g6 (by simp), fun o => (g6.frozen_far ⟨w0.heap.size, o, none⟩ q6.lt (by simp)).trans ((hg.frozen_far ⟨w0.heap.size, o, none⟩ h'.q.lt (fun e => by have h8 : w0.heap.size + 1 ≤ w0.heap.size := (h.sq.lt _ e.symm).1; omega)).trans (h'.qf o)), ⟨Nat.lt_of_lt_of_le b6.lt g6.size, putC0 b6.c0, putC1 b6.c1, putC2 b6.c2⟩, fun o => by simpa [go_sem] using f6 o, (g6.block _ hs6 (by simp)).trans i6, ?_, hN, by simp [h.len], bl6.setCell (p := ⟨w0.heap.size + 2, 2, none⟩) (by simp) _⟩
  rw [flat_app]
  exact own_far ho g6 (fun j hj e => (hN j hj).1 (by simpa using e.symm))
theorem PM.start (w : World) (s : ByteArray) (W : World) (hW : W = ((((w.alloc (.cells #[.int .i64 0, .int .i64 0, .slice none 0 0] 29)).alloc (.cells #[.int .i64 0, .int .i64 0, .int .i64 1] 65)).alloc (.cells #[.int .i64 1, .int .i64 1, .slice (some ⟨w.heap.size + 1, 0, none⟩) 1 1] 29)).iter s 0)) :
    PM w W s 0 1 1 (some ⟨w.heap.size + 1, 0, none⟩) 1 1 [⟨0, 0, 1⟩] := by
  obtain ⟨W1, h1⟩ : ∃ W1, W1 = w.alloc (.cells #[.int .i64 0, .int .i64 0, .slice none 0 0] 29) := ⟨_, rfl⟩
  rw [← h1] at hW
  obtain ⟨W2, h2⟩ : ∃ W2, W2 = W1.alloc (.cells #[.int .i64 0, .int .i64 0, .int .i64 1] 65) := ⟨_, rfl⟩
  rw [← h2] at hW
  obtain ⟨W3, h3⟩ : ∃ W3, W3 = W2.alloc (.cells #[.int .i64 1, .int .i64 1, .slice (some ⟨w.heap.size + 1, 0, none⟩) 1 1] 29) := ⟨_, rfl⟩
  rw [← h3] at hW
  have s1 : W1.heap.size = w.heap.size + 1 := by rw [h1]; simp
  have s2 : W2.heap.size = w.heap.size + 2 := by rw [h2]; simp; omega
  have s3 : W3.heap.size = w.heap.size + 3 := by rw [h3]; simp; omega
  have b1 : Below w.heap.size w W1 := by rw [h1]; exact (Below.refl _ _).alloc (Nat.le_refl _) _
  have b2 : Below W1.heap.size W1 W2 := by rw [h2]; exact (Below.refl _ _).alloc (Nat.le_refl _) _
  have b3 : Below W2.heap.size W2 W3 := by rw [h3]; exact (Below.refl _ _).alloc (Nat.le_refl _) _
  have b4 : Below W3.heap.size W3 W := by rw [hW]; show Below W3.heap.size W3 (W3.alloc (.stringIter s 0)); exact (Below.refl _ _).alloc (Nat.le_refl _) _
  have q : Bx w.heap.size W1 0 0 none 0 0 := by rw [h1]; exact Bx.start _ _ _ _ _ _ _
  have qf : ∀ o, W1.frozen? ⟨w.heap.size, o, none⟩ = false := fun o => by rw [h1]; simp [go_sem]
  have sq : W2.ownsRow W1.heap.size 65 3 (.slice (some ⟨W1.heap.size, 0, none⟩) 1 1) 1 (flat [⟨0, 0, 1⟩]) := by rw [h2]; exact World.ownsRow_lit W1 #[.int .i64 0, .int .i64 0, .int .i64 1] 1 (Nat.le_refl _) (by decide) rfl
  have b : Bx W2.heap.size W3 1 1 (some ⟨w.heap.size + 1, 0, none⟩) 1 1 := by rw [h3]; exact Bx.start _ _ _ _ _ _ _
  have bf : ∀ o, W3.frozen? ⟨W2.heap.size, o, none⟩ = false := fun o => by rw [h3]; simp [go_sem]
  have it : W.heap[W3.heap.size]? = some (.stringIter s 0) := by rw [hW]; exact World.iter_heap W3 s 0
  have q4 := ((q.next b2).next b3).next b4
  have sq4 := own_keep (own_keep sq b3) b4
  rw [s1] at sq4
  have b4' := b.next b4
  rw [s2] at b4' bf
  rw [s3] at it
  refine ⟨q4, fun o => ?_, b4', fun o => (b4.frozen (p := ⟨w.heap.size + 2, o, none⟩) (by simp; omega)).trans (bf o), it, sq4, fun j hj => ?_, rfl, ((b1.trans (b2.mono (by omega))).trans (b3.mono (by omega))).trans (b4.mono (by omega))⟩
  · exact (b4.frozen (p := ⟨w.heap.size, o, none⟩) (by simp; omega)).trans ((b3.frozen (p := ⟨w.heap.size, o, none⟩) (by simp; omega)).trans ((b2.frozen (p := ⟨w.heap.size, o, none⟩) (by simp; omega)).trans (qf o)))
  · simp [Value.ownBlock] at hj
    omega

noncomputable def putA (s : ByteArray) : Int := if dc (WordG (wcs s)) then (putF (wcs s)).1 else 0
noncomputable def putB (s : ByteArray) : Int := if dc (WordG (wcs s)) then (putF (wcs s)).2.1 else 0
noncomputable def putQ (s : ByteArray) : List Sq := if dc (WordG (wcs s)) then (putF (wcs s)).2.2 else []
def RetPut (w : World) (s : ByteArray) (e : Ending) (w' : World) : Prop := RetCut w (putA s) (putB s) (putQ s) (dc (WordG (wcs s))) e w'
theorem RetPut.none_ {w w' : World} {s : ByteArray} (h : ¬ WordG (wcs s)) (hb : Below w.heap.size w w') : RetPut w s (.returned (.tuple #[.agg #[.int .i64 0, .int .i64 0, .slice none 0 0], .bool false])) w' := by
  unfold RetPut putA putB putQ
  rw [dc_false h]
  exact RetCut.none_ hb

set_option maxRecDepth 100000 in
set_option maxHeartbeats 8000000 in
theorem putOn_any (s : ByteArray) (w : World) (hs : s.size ≤ 1048576) : Calls Try.prog 82 #[.string s] w (RetPut w s) := by
  obtain ⟨j0, hj, hz0, hz1, hz2⟩ := info_parts infoSq
  by_cases h20 : s.size ≤ 20
  · have h21 : (s.size : Int) ≤ 20 := by omega
    go_enter Try.func82, Try.ntmps82
    go_wp2_with fail
    obtain ⟨W0, hW0⟩ : ∃ W0, W0 = ((((w.alloc (.cells #[.int .i64 0, .int .i64 0, .slice none 0 0] 29)).alloc (.cells #[.int .i64 0, .int .i64 0, .int .i64 1] 65)).alloc (.cells #[.int .i64 1, .int .i64 1, .slice (some ⟨w.heap.size + 1, 0, none⟩) 1 1] 29)).iter s 0) := ⟨_, rfl⟩
    have hM0 := PM.start w s W0 hW0
    rw [← hW0]
    clear hW0
    go_loopw [] (fun wr => ∃ (pos : Nat) (x y : Int) (A : Option Addr) (k c : Nat) (L : List Sq), pos ≤ s.size ∧ PM w wr s pos x y A k c L ∧ putF ((wcs s).take pos) = (x, y, L) ∧ ∀ i, i < pos → (hi : i < s.size) → (s[i]'hi).toNat = 98 ∨ (s[i]'hi).toNat = 117) (fun wr => s.size - wr.iterPos (w.heap.size + 3))
    case atStart => exact ⟨0, 1, 1, _, 1, 1, _, Nat.zero_le _, hM0, rfl, fun i hi => absurd hi (by omega)⟩
    case round =>
      obtain ⟨pos, x, y, A, k, c, L, hps, hM, hF, hD⟩ := hrel
      have HF := Lib.hid hF
      have HD := Lib.hid hD
      have HM := Lib.hid hM
      have hbig := hM.big
      have hbd : Bnd 1048576 (x, y, L) := by rw [← hF]; exact putF_take_bnd (by rw [wcs_len]; exact h20) pos
      have HBd := Lib.hid hbd
      have hlen0 : k ≤ 21 := by
        have h1 := putF_length ((wcs s).take pos)
        rw [hF, List.length_take] at h1
        have h2 := hM.len
        simp only at h1
        omega
      have HLen := Lib.hid hlen0
      clear hF hD hM0 hbd hlen0
      by_cases hp : pos < s.size
      · by_cases h98 : (s[pos]'hp).toNat = 98
        · have HB := Lib.hid h98
          clear h98
          have hnx : ∀ ty, (Instr.next (.pointer (some ⟨w.heap.size + 3, 0, none⟩)) true ty).run Try.prog wr = .ok (.tuple #[.bool true, .int .i64 pos, .int .i32 98]) (wr.iterAt (w.heap.size + 3) s (pos + 1)) := fun ty => by
            rw [Lib.run_next_ascii_at wr (w.heap.size + 3) s pos ty hM.it hp (by rw [HB.out]; decide), HB.out]
            rfl
          have hM1 := hM.iter (pos + 1)
          obtain ⟨hlt, y0, y1, y2⟩ := id hM1.b
          have hsq := hM1.sq
          have hlen := HLen.out
          have hbd1 : k + 1 ≤ maxLen := by unfold maxLen; omega
          have hbd2 : (k + 1) * 24 ≤ 140737488355328 := by omega
          have hbs : w.heap.size + 1 ≤ (wr.iterAt (w.heap.size + 3) s (pos + 1)).heap.size := by omega
          obtain ⟨W1, hW1⟩ : ∃ W1, W1 = wr.iterAt (w.heap.size + 3) s (pos + 1) := ⟨_, rfl⟩
          rw [← hW1] at hnx hM1 hlt y0 y1 y2 hsq hbs
          clear hW1 hM
          have hx0 : 1 ≤ x ∧ x ≤ 1048576 := HBd.out.1
          have hy0 : 1 ≤ y ∧ y ≤ 1048576 := HBd.out.2.1
          obtain ⟨hx0, hx1⟩ := hx0
          obtain ⟨hy0, hy1⟩ := hy0
          clear hlen
          go_wp2_with (at_builtin; refine app_list rfl _ _ _ rfl (w.heap.size + 1) 65 j0 (.agg #[.int .i64 0, .int .i64 0, .int .i64 0]) 3 24 Try.underlying27 hj hz0 hz1 hz2 rfl (by decide) (.slice A k c) k _ rfl (hsq.alloc _) (some ⟨W1.heap.size, 0, none⟩) 1 1 [.int .i64 x, .int .i64 0, .int .i64 y] rfl rfl (.inr ⟨_, rfl, new3 _ _ _ _ _⟩) (one3 _ _ _) hbd1 hbd2 (by simp; omega) ?_; intro v' w6 hown6 hgrow hv6; obtain ⟨A6, c6, rfl⟩ := own_val hown6; have hM6 := hM1.push ((Below.refl _ _).alloc (Nat.le_refl _) _) hgrow (q := ⟨x, 0, y⟩) hown6 hv6 (by simp); have hM6' := hM1.far ((Below.refl _ _).alloc (Nat.le_refl _) _) hgrow; obtain ⟨hlt6, y0, y1, y2⟩ := id hM6'.1; have t0 := hM6'.2 0; have t1 := hM6'.2 1; have t2 := hM6'.2 2)
          go_roundw
          case rel =>
            have e := putF_take (wcs_get s pos hp)
            rw [HB.out] at e
            refine ⟨pos + 1, x + y, y, A6, k + 1, c6, _, by omega, hM6.setA (x + y), ?_, ?_⟩
            · rw [e, HF.out]; rfl
            · intro i hi hi'
              by_cases e2 : i = pos
              · subst e2; left; exact HB.out
              · exact HD.out i (by omega) hi'
          case measure =>
            have hi6 := (hM6.setA (x + y)).it
            have hi0 := HM.out.it
            simp only [World.iterPos, hi6, hi0]
            omega
        · by_cases h117 : (s[pos]'hp).toNat = 117
          · have HB := Lib.hid h117
            clear h98 h117
            have hnx : ∀ ty, (Instr.next (.pointer (some ⟨w.heap.size + 3, 0, none⟩)) true ty).run Try.prog wr = .ok (.tuple #[.bool true, .int .i64 pos, .int .i32 117]) (wr.iterAt (w.heap.size + 3) s (pos + 1)) := fun ty => by
              rw [Lib.run_next_ascii_at wr (w.heap.size + 3) s pos ty hM.it hp (by rw [HB.out]; decide), HB.out]
              rfl
            have hM1 := hM.iter (pos + 1)
            obtain ⟨hlt, y0, y1, y2⟩ := id hM1.b
            have hsq := hM1.sq
            have hlen := HLen.out
            have hbd1 : k + 1 ≤ maxLen := by unfold maxLen; omega
            have hbd2 : (k + 1) * 24 ≤ 140737488355328 := by omega
            have hbs : w.heap.size + 1 ≤ (wr.iterAt (w.heap.size + 3) s (pos + 1)).heap.size := by omega
            obtain ⟨W1, hW1⟩ : ∃ W1, W1 = wr.iterAt (w.heap.size + 3) s (pos + 1) := ⟨_, rfl⟩
            rw [← hW1] at hnx hM1 hlt y0 y1 y2 hsq hbs
            clear hW1 hM
            have hx0 : 1 ≤ x ∧ x ≤ 1048576 := HBd.out.1
            have hy0 : 1 ≤ y ∧ y ≤ 1048576 := HBd.out.2.1
            obtain ⟨hx0, hx1⟩ := hx0
            obtain ⟨hy0, hy1⟩ := hy0
            clear hlen
            go_wp2_with (at_builtin; refine app_list rfl _ _ _ rfl (w.heap.size + 1) 65 j0 (.agg #[.int .i64 0, .int .i64 0, .int .i64 0]) 3 24 Try.underlying27 hj hz0 hz1 hz2 rfl (by decide) (.slice A k c) k _ rfl (hsq.alloc _) (some ⟨W1.heap.size, 0, none⟩) 1 1 [.int .i64 0, .int .i64 y, .int .i64 x] rfl rfl (.inr ⟨_, rfl, new3 _ _ _ _ _⟩) (one3 _ _ _) hbd1 hbd2 (by simp; omega) ?_; intro v' w6 hown6 hgrow hv6; obtain ⟨A6, c6, rfl⟩ := own_val hown6; have hM6 := hM1.push ((Below.refl _ _).alloc (Nat.le_refl _) _) hgrow (q := ⟨0, y, x⟩) hown6 hv6 (by simp); have hM6' := hM1.far ((Below.refl _ _).alloc (Nat.le_refl _) _) hgrow; obtain ⟨hlt6, y0, y1, y2⟩ := id hM6'.1; have t0 := hM6'.2 0; have t1 := hM6'.2 1; have t2 := hM6'.2 2)
            go_roundw
            case rel =>
              have e := putF_take (wcs_get s pos hp)
              rw [HB.out] at e
              refine ⟨pos + 1, x, y + x, A6, k + 1, c6, _, by omega, hM6.setB (y + x), ?_, ?_⟩
              · rw [e, HF.out]; rfl
              · intro i hi hi'
                by_cases e2 : i = pos
                · subst e2; right; exact HB.out
                · exact HD.out i (by omega) hi'
            case measure =>
              have hi6 := (hM6.setB (y + x)).it
              have hi0 := HM.out.it
              simp only [World.iterPos, hi6, hi0]
              omega
          · have hno : ¬ WordG (wcs s) := wcs_no hp h98 h117
            obtain ⟨r, hr⟩ : ∃ r, (Utf8.decode s pos).1 = r := ⟨_, rfl⟩
            obtain ⟨d, hd⟩ : ∃ d, (Utf8.decode s pos).2 = d := ⟨_, rfl⟩
            have hr2 : r ≠ 98 ∧ r ≠ 117 := by
              by_cases ha : (s[pos]'hp).toNat < 128
              · rw [decode_ascii s pos hp ha] at hr
                simp only at hr
                omega
              · have := (decode_high s pos hp (by omega)).1
                omega
            have hrl := decode_le s pos
            rw [hr] at hrl
            obtain ⟨hr98, hr117⟩ := hr2
            have hnx : ∀ ty, (Instr.next (.pointer (some ⟨w.heap.size + 3, 0, none⟩)) true ty).run Try.prog wr = .ok (.tuple #[.bool true, .int .i64 pos, .int .i32 r]) (wr.iterAt (w.heap.size + 3) s (pos + d)) := fun ty => by
              rw [Lib.run_next_any_at wr (w.heap.size + 3) s pos ty hM.it hp, hr, hd]
            have hM1 := hM.iter (pos + d)
            obtain ⟨W1, hW1⟩ : ∃ W1, W1 = wr.iterAt (w.heap.size + 3) s (pos + d) := ⟨_, rfl⟩
            rw [← hW1] at hnx hM1
            clear hW1 hM h98 h117 hr hd
            obtain ⟨hlt, y0, y1, y2⟩ := id hM1.q
            have t0 := hM1.qf 0
            have t1 := hM1.qf 1
            have t2 := hM1.qf 2
            have hB1 := hM1.below
            go_wp2_with fail
            refine bodyPost_ret (v := .tuple #[.agg #[.int .i64 0, .int .i64 0, .slice none 0 0], .bool false]) (by simp [results, Try.results82, go_sem, y0, y1, y2]) rfl ?_
            exact RetPut.none_ hno (((hB1.setCell (p := ⟨w.heap.size, 0, none⟩) (Nat.le_refl _) _).setCell (p := ⟨w.heap.size, 1, none⟩) (Nat.le_refl _) _).setCell (p := ⟨w.heap.size, 2, none⟩) (Nat.le_refl _) _)
      · obtain rfl : pos = s.size := by omega
        have hnx : ∀ ty, (Instr.next (.pointer (some ⟨w.heap.size + 3, 0, none⟩)) true ty).run Try.prog wr = .ok (.tuple #[.bool false]) wr := fun ty => Lib.run_next_end_at wr (w.heap.size + 3) s s.size ty hM.it hp
        have hyes : WordG (wcs s) := wcs_yes h20 fun i hi => HD.out i hi hi
        have hF := HF.out
        rw [List.take_of_length_le (by rw [wcs_len]; exact Nat.le_refl _)] at hF
        have HF := Lib.hid hF
        clear hF
        have hsq := hM.sq
        have hB1 := hM.below
        have hL := hM.len
        have HL := Lib.hid hL
        clear hL
        obtain ⟨hlt, y0, y1, y2⟩ := id hM.q
        obtain ⟨hlt', z0, z1, z2⟩ := id hM.b
        have t0 := hM.qf 0
        have t1 := hM.qf 1
        have t2 := hM.qf 2
        clear hM
        go_wp2_with fail
        refine bodyPost_ret (v := .tuple #[.agg #[.int .i64 x, .int .i64 y, .slice A k c], .bool true]) (by simp [results, Try.results82, go_sem, y0, y1, y2]) rfl ?_
        unfold RetPut putA putB putQ
        rw [dc_true hyes, HF.out]
        have RR := ownsRow_setCell_below (ownsRow_setCell_below (ownsRow_setCell_below hsq (a := ⟨w.heap.size, 0, none⟩) (Nat.lt_succ_self _) (.int .i64 x)) (a := ⟨w.heap.size, 1, none⟩) (Nat.lt_succ_self _) (.int .i64 y)) (a := ⟨w.heap.size, 2, none⟩) (Nat.lt_succ_self _) (.slice A k c)
        exact RetCut.mk (by simpa using HL.out.symm) (own_base RR (Nat.le_succ _)) (((hB1.setCell (p := ⟨w.heap.size, 0, none⟩) (Nat.le_refl _) _).setCell (p := ⟨w.heap.size, 1, none⟩) (Nat.le_refl _) _).setCell (p := ⟨w.heap.size, 2, none⟩) (Nat.le_refl _) _)
  · have h21 : 20 < (s.size : Int) := by omega
    have hno : ¬ WordG (wcs s) := fun h => h20 (wcs_size h)
    go_enter Try.func82, Try.ntmps82
    go_wp2_with fail
    refine bodyPost_ret (v := .tuple #[.agg #[.int .i64 0, .int .i64 0, .slice none 0 0], .bool false]) (by simp [results, Try.results82, go_sem]) rfl ?_
    exact RetPut.none_ hno (((Below.refl _ _).alloc (Nat.le_refl _) _))
end Go.Proofs.Ytlfikjjdhmaemaa
