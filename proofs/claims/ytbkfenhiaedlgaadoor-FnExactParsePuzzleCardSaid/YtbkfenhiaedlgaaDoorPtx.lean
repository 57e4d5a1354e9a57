/- PuzzleText: both sides. -/
import Derived.Test.YtbkfenhiaedlgaaDoorCt2
import Derived.Test.YtbkfenhiaedlgaaDoorPzD
set_option linter.all false
namespace Go.Proofs.YtbkfenhiaedlgaaDoor
open Go.RowKit

theorem str58 : (⟨#[58]⟩ : ByteArray) = bas [58] := rfl
theorem str46 : (⟨#[46]⟩ : ByteArray) = bas [46] := rfl
theorem m46 : (⟨#[46]⟩ : ByteArray).data.toList = [46] := rfl
theorem join_snoc (xs : List (List UInt8)) (y sep : List UInt8) : Lib.join (xs ++ [y]) sep = if xs = [] then y else Lib.join xs sep ++ sep ++ y := by
  cases xs with
  | nil => simp [Lib.join_one]
  | cons x r => simp [Lib.join_cons, Lib.joinTail]
theorem goodP_sm {W H : Int} {L : List Sq} (h : GoodP W H L) : ∀ s ∈ L, SmS s := fun s hs => by
  have hc := clueOk_iff.1 (h.2.2 s hs)
  have hz := h.size
  unfold spA spB at hc
  unfold SmS
  rcases kinds s.x with e | e | e | e | e | e | ⟨_, _, _, _, _, _, e⟩
  all_goals (first | (simp only [e] at hc; simp at hc; omega) | omega)
/-- A clue's text. -/
def clq (s : Sq) : List UInt8 := dec s.x.toNat ++ 46 :: (dec s.y.toNat ++ 46 :: dec s.d.toNat)
theorem clq_len {s : Sq} (h : SmS s) : (clq s).length ≤ 20 := by
  have := txQ_len h; rw [txQ_sqt] at this; simp [sqt] at this; simp [clq]; omega
/-- A puzzle's text. -/
def ptx (W H : Nat) (L : List Sq) : List UInt8 := dec W ++ 120 :: (dec H ++ 58 :: Lib.join (L.map clq) [44])
theorem ptx_zero (W H : Nat) (L : List Sq) : ptx W H (L.take 0) = dec W ++ 120 :: (dec H ++ [58]) := by simp [ptx, Lib.join_nil]
theorem ptx_first (W H : Nat) (L : List Sq) (s : Sq) (h : L[0]? = some s) : ptx W H (L.take 1) = ptx W H (L.take 0) ++ clq s := by
  obtain ⟨hk, e⟩ := List.getElem?_eq_some_iff.1 h
  rw [List.take_succ_eq_append_getElem hk, e]; simp [ptx, Lib.join_one, Lib.join_nil]
theorem ptx_succ (W H : Nat) (L : List Sq) (k : Nat) (s : Sq) (h : L[k]? = some s) (hk0 : 0 < k) : ptx W H (L.take (k + 1)) = ptx W H (L.take k) ++ 44 :: clq s := by
  obtain ⟨hk, e⟩ := List.getElem?_eq_some_iff.1 h
  rw [List.take_succ_eq_append_getElem hk, e]
  simp only [ptx, List.map_append, List.map_cons, List.map_nil, join_snoc]
  rw [if_neg]
  · simp
  · intro hh
    have h1 : (L.take k).length = 0 := by rw [← List.length_map (f := clq), hh]; rfl
    rw [List.length_take] at h1; omega
theorem ptx_len {W H : Nat} (hW : W ≤ 1000) (hH : H ≤ 1000) (L : List Sq) (hs : ∀ s ∈ L, SmS s) : (ptx W H L).length ≤ 20 + 21 * L.length := by
  have a := dec_6 hW
  have b := dec_6 hH
  have c := join_le (L.map clq) [44] 20 (fun x hx => by obtain ⟨s, hsm, rfl⟩ := List.mem_map.1 hx; exact clq_len (hs s hsm))
  simp only [ptx, List.length_append, List.length_cons, List.length_map, List.length_nil] at c ⊢; omega
set_option maxRecDepth 100000 in
set_option maxHeartbeats 8000000 in
theorem pzText_any (W H : Int) (A : Option Addr) (n c : Nat) (L : List Sq) (w : World) (hl : L.length = n) (hn : n ≤ 100) (hW : 0 ≤ W ∧ W ≤ 1000) (hH : 0 ≤ H ∧ H ≤ 1000) (hL : SqsAt w w.heap.size A L) (hs : ∀ s ∈ L, SmS s) :
    Calls Tryd.prog 84 #[.agg #[.int .i64 W, .int .i64 H, .slice A n c]] w fun e w' => e = .returned (.string (bas (ptx W.toNat H.toNat L))) ∧ Below w.heap.size w w' := by
  have B0 : Below w.heap.size w (w.alloc (.cells #[.int .i64 W, .int .i64 H, .slice A n c] 65)) := (Below.refl _ _).alloc (Nat.le_refl _) _
  have K0 := Bx.start w W H A n c 65
  have hW6 := dec_6 (n := W.toNat) (by omega)
  have hH6 := dec_6 (n := H.toNat) (by omega)
  have hz := ptx_zero W.toNat H.toNat L
  obtain ⟨T, hT⟩ : ∃ T : Nat → List UInt8, T = fun k => ptx W.toNat H.toNat (L.take k) := ⟨_, rfl⟩
  have hTl : ∀ k, (T k).length ≤ 2120 := fun k => by
    have := ptx_len (W := W.toNat) (H := H.toNat) (by omega) (by omega) (L.take k) (fun s h => hs s (List.mem_of_mem_take h))
    rw [hT]; have h2 : (L.take k).length ≤ L.length := by rw [List.length_take]; omega
    simp only; omega
  have hT0 : T 0 = dec W.toNat ++ 120 :: (dec H.toNat ++ [58]) := by rw [hT]; exact hz
  have hTf : ∀ s, L[0]? = some s → T 1 = T 0 ++ clq s := fun s h => by rw [hT]; exact ptx_first _ _ L s h
  have hTs : ∀ k s, L[k]? = some s → 0 < k → T (k + 1) = T k ++ 44 :: clq s := fun k s h h0 => by rw [hT]; exact ptx_succ _ _ L k s h h0
  have hTn : T n = ptx W.toNat H.toNat L := by rw [hT]; simp only; rw [List.take_of_length_le (by omega)]
  have C1 := fun (V : World) => numL W hW V
  have C2 := fun (V : World) => numL H hH V
  obtain ⟨a, ha⟩ : ∃ a, dec W.toNat = a := ⟨_, rfl⟩
  obtain ⟨b, hb⟩ : ∃ b, dec H.toNat = b := ⟨_, rfl⟩
  rw [ha] at C1 hW6 hT0
  rw [hb] at C2 hH6 hT0
  have sa := bas_size a
  have sb := bas_size b
  obtain ⟨SA, hSA⟩ : ∃ SA, bas a = SA := ⟨_, rfl⟩
  obtain ⟨SB, hSB⟩ : ∃ SB, bas b = SB := ⟨_, rfl⟩
  rw [hSA] at C1 sa
  rw [hSB] at C2 sb
  have n120 : (⟨#[120]⟩ : ByteArray).size = 1 := rfl
  have n58 : (⟨#[58]⟩ : ByteArray).size = 1 := rfl
  have u1 : ¬ 9223372036854775807 < SA.size + (⟨#[120]⟩ : ByteArray).size := by omega
  have u2 : ¬ 9223372036854775807 < (SA ++ ⟨#[120]⟩).size + SB.size := by rw [ByteArray.size_append]; omega
  have u3 : ¬ 9223372036854775807 < (SA ++ ⟨#[120]⟩ ++ SB).size + (⟨#[58]⟩ : ByteArray).size := by simp only [ByteArray.size_append]; omega
  have HT0 := Lib.hid hT0
  have HTL := Lib.hid hTl
  have HTF := Lib.hid hTf
  have HTS := Lib.hid hTs
  have HTN := Lib.hid hTn
  have HSA := Lib.hid hSA
  have HSB := Lib.hid hSB
  rw [← hTn]
  obtain ⟨W0, hW0⟩ : ∃ W0, W0 = w.alloc (.cells #[.int .i64 W, .int .i64 H, .slice A n c] 65) := ⟨_, rfl⟩
  rw [← hW0] at B0 K0
  have F0 : ∀ u : Later W0.heap.size W0, u.val.cell? ⟨w.heap.size, 0, none⟩ = some (.int .i64 W) := fun u => (u.ok.cell (p := ⟨_, _, none⟩) K0.lt).trans K0.c0
  have F1 : ∀ u : Later W0.heap.size W0, u.val.cell? ⟨w.heap.size, 1, none⟩ = some (.int .i64 H) := fun u => (u.ok.cell (p := ⟨_, _, none⟩) K0.lt).trans K0.c1
  have D1 := fun (u : Later W0.heap.size W0) => C1 u.val
  have D2 := fun (u : Later W0.heap.size W0) => C2 u.val
  clear hT hT0 hTl hTs hTf hTn ha hb hSA hSB hz sa sb C1 C2 n120 n58
  go_enter Tryd.func84, Tryd.ntmps84
  go_wp2_with fail
  rw [← hW0]
  clear hW0
  refine wp_region_sub W0.heap.size (by kernel_rfl) (by kernel_rfl) ?_
  iterate 10 (first | go_big_quiet_step ((go_at_call 95; first  | (with_reducible exact sub_of _ (Nat.le_refl _) (D1 _)) | (with_reducible exact sub_of _ (Nat.le_refl _) (D2 _)))) | quiet_step ((go_at_call 95; first  | (with_reducible exact sub_of _ (Nat.le_refl _) (D1 _)) | (with_reducible exact sub_of _ (Nat.le_refl _) (D2 _)))))
  refine wpQuiet_nil ?_
  rintro w2 ⟨uu, hu⟩
  have hb2 : Below W0.heap.size W0 w2 := by rw [hu]; exact uu.ok
  clear hu uu F0 F1 D1 D2 u1 u2 u3
  obtain ⟨kl, k0, k1, k2⟩ := K0.next hb2
  have B2 := B0.trans (hb2.mono B0.size)
  have e0 : SA ++ ⟨#[120]⟩ ++ SB ++ ⟨#[58]⟩ = bas (T 0) := by rw [← HSA.out, ← HSB.out, str120, str58, bas_app, bas_app, bas_app, HT0.out]; simp
  clear K0 B0 hb2
  go_wp2_with fail
  rw [e0]
  clear e0 kl k0 k1 k2
  go_loopw [3, 18] (fun v i wr => ∃ k : Nat, k ≤ n ∧ i = .int .i64 k ∧ v = .string (bas (T k)) ∧ Below w.heap.size w wr) (fun _ i _ => n - (intOf i).toNat)
  case atStart => exact ⟨0, Nat.zero_le _, rfl, rfl, B2⟩
  case round =>
    obtain ⟨k, hk, rfl, rfl, hbr⟩ := hrel
    by_cases hlt : k < n
    · obtain ⟨s, hsk⟩ : ∃ s, L[k]? = some s := ⟨_, List.getElem?_eq_getElem (by omega)⟩
      obtain ⟨b0, off, rfl, hb0, c0, c1, c2⟩ := (hL.below hbr) k s hsk
      have hsm := hs s (List.mem_of_getElem? hsk)
      have hl1 := HTL.out k
      have C1 := fun (V : World) => numL s.x hsm.1 V
      have C2 := fun (V : World) => numL s.y hsm.2.1 V
      have C3 := fun (V : World) => numL s.d hsm.2.2 V
      have g1 := dec_6 (n := s.x.toNat) (by have := hsm.1; omega)
      have g2 := dec_6 (n := s.y.toNat) (by have := hsm.2.1; omega)
      have g3 := dec_6 (n := s.d.toNat) (by have := hsm.2.2; omega)
      have s1 := bas_size (dec s.x.toNat)
      have s2 := bas_size (dec s.y.toNat)
      have s3 := bas_size (dec s.d.toNat)
      have s4 := bas_size (T k)
      have hTf := HTF.out s
      have hTs := HTS.out k s hsk
      unfold clq at hTf hTs
      obtain ⟨x, hx⟩ : ∃ x, bas (dec s.x.toNat) = x := ⟨_, rfl⟩
      obtain ⟨y, hy⟩ : ∃ y, bas (dec s.y.toNat) = y := ⟨_, rfl⟩
      obtain ⟨z, hz⟩ : ∃ z, bas (dec s.d.toNat) = z := ⟨_, rfl⟩
      obtain ⟨TK, hTK⟩ : ∃ TK, bas (T k) = TK := ⟨_, rfl⟩
      rw [hx] at s1 C1
      rw [hy] at s2 C2
      rw [hz] at s3 C3
      rw [hTK] at s4
      have n44 : (⟨#[44]⟩ : ByteArray).size = 1 := rfl
      have n46 : (⟨#[46]⟩ : ByteArray).size = 1 := rfl
      have u1 : ¬ 9223372036854775807 < x.size + (⟨#[46]⟩ : ByteArray).size := by omega
      have u2 : ¬ 9223372036854775807 < (x ++ ⟨#[46]⟩).size + y.size := by rw [ByteArray.size_append]; omega
      have u3 : ¬ 9223372036854775807 < (x ++ ⟨#[46]⟩ ++ y).size + (⟨#[46]⟩ : ByteArray).size := by simp only [ByteArray.size_append]; omega
      have u4 : ¬ 9223372036854775807 < (x ++ ⟨#[46]⟩ ++ y ++ ⟨#[46]⟩).size + z.size := by simp only [ByteArray.size_append]; omega
      have u5 : ¬ 9223372036854775807 < TK.size + (x ++ ⟨#[46]⟩ ++ y ++ ⟨#[46]⟩ ++ z).size := by simp only [ByteArray.size_append]; omega
      have v1 : ¬ 9223372036854775807 < TK.size + (⟨#[44]⟩ : ByteArray).size := by omega
      have v2 : ¬ 9223372036854775807 < (TK ++ ⟨#[44]⟩).size + (x ++ ⟨#[46]⟩ ++ y ++ ⟨#[46]⟩ ++ z).size := by simp only [ByteArray.size_append]; omega
      have i1 : (0 : Int) ≤ (k : Int) := by omega
      have i2 : (k : Int) < (n : Int) := by omega
      rw [hTK]
      have HX := Lib.hid (And.intro hx (And.intro hy (And.intro hz hTK)))
      have HTf := Lib.hid hTf
      have HTs := Lib.hid hTs
      have HSK := Lib.hid hsk
      clear hx hy hz hTK hTf hTs hl1 g1 g2 g3 s1 s2 s3 s4 n44 n46 hsk hsm
      by_cases hk0 : k = 0
      · have e1 : TK ++ (x ++ ⟨#[46]⟩ ++ y ++ ⟨#[46]⟩ ++ z) = bas (T (k + 1)) := by
          subst hk0
          obtain ⟨q1, q2, q3, q4⟩ := HX.out
          rw [HTf.out HSK.out, ← q4, ← q1, ← q2, ← q3, str46]; simp only [bas_app]; simp
        have d1 : decide (0 < k) = false := by simp; omega
        have HE1 := Lib.hid e1
        clear e1 hk0 v1 v2
        go_wp2_with fail
        obtain ⟨W1, hW1⟩ : ∃ W1, W1 = wr.alloc (.cells #[.int .i64 s.x, .int .i64 s.y, .int .i64 s.d] 122) := ⟨_, rfl⟩
        have hb1 : Below wr.heap.size wr W1 := by rw [hW1]; exact (Below.refl _ _).alloc (Nat.le_refl _) _
        have hlt1 : wr.heap.size < W1.heap.size := by rw [hW1]; simp
        have x0 : W1.cell? ⟨wr.heap.size, 0, none⟩ = some (.int .i64 s.x) := by rw [hW1]; simp
        have x1 : W1.cell? ⟨wr.heap.size, 1, none⟩ = some (.int .i64 s.y) := by rw [hW1]; simp
        have x2 : W1.cell? ⟨wr.heap.size, 2, none⟩ = some (.int .i64 s.d) := by rw [hW1]; simp
        rw [← hW1]
        clear hW1 c0 c1 c2
        have F0 : ∀ u : Later W1.heap.size W1, u.val.cell? ⟨wr.heap.size, 0, none⟩ = some (.int .i64 s.x) := fun u => (u.ok.cell (p := ⟨_, _, none⟩) hlt1).trans x0
        have F1 : ∀ u : Later W1.heap.size W1, u.val.cell? ⟨wr.heap.size, 1, none⟩ = some (.int .i64 s.y) := fun u => (u.ok.cell (p := ⟨_, _, none⟩) hlt1).trans x1
        have F2 : ∀ u : Later W1.heap.size W1, u.val.cell? ⟨wr.heap.size, 2, none⟩ = some (.int .i64 s.d) := fun u => (u.ok.cell (p := ⟨_, _, none⟩) hlt1).trans x2
        have D1 := fun (u : Later W1.heap.size W1) => C1 u.val
        have D2 := fun (u : Later W1.heap.size W1) => C2 u.val
        have D3 := fun (u : Later W1.heap.size W1) => C3 u.val
        clear C1 C2 C3 x0 x1 x2
        refine wp_region_sub W1.heap.size (by kernel_rfl) (by kernel_rfl) ?_
        iterate 16 (first | go_big_quiet_step ((go_at_call 95; first  | (with_reducible exact sub_of _ (Nat.le_refl _) (D1 _)) | (with_reducible exact sub_of _ (Nat.le_refl _) (D2 _)) | (with_reducible exact sub_of _ (Nat.le_refl _) (D3 _)))) | quiet_step ((go_at_call 95; first  | (with_reducible exact sub_of _ (Nat.le_refl _) (D1 _)) | (with_reducible exact sub_of _ (Nat.le_refl _) (D2 _)) | (with_reducible exact sub_of _ (Nat.le_refl _) (D3 _)))))
        refine wpQuiet_nil ?_
        rintro w5 ⟨uu, hu⟩
        have hb5 : Below W1.heap.size W1 w5 := by rw [hu]; exact uu.ok
        clear hu uu F0 F1 F2 D1 D2 D3 u1 u2 u3 u4 u5
        have hbr5 := hbr.trans ((hb1.trans (hb5.mono hb1.size)).mono hbr.size)
        clear hb5 hb1
        go_wp2_with fail
        go_roundw
        case rel => exact ⟨k + 1, by omega, by go_num, by rw [HE1.out], hbr5⟩
        case measure => simp [intOf]; omega
      · have e1 : TK ++ ⟨#[44]⟩ ++ (x ++ ⟨#[46]⟩ ++ y ++ ⟨#[46]⟩ ++ z) = bas (T (k + 1)) := by
          obtain ⟨q1, q2, q3, q4⟩ := HX.out
          rw [HTs.out (by omega), ← q4, ← q1, ← q2, ← q3, str46, str44]; simp only [bas_app]; simp
        have d1 : decide (0 < k) = true := by simp; omega
        have v3 : ¬ 9223372036854775807 < TK.size + 1 := v1
        have HE1 := Lib.hid e1
        have u5 := v2
        clear e1 hk0 v2
        go_wp2_with fail
        obtain ⟨W1, hW1⟩ : ∃ W1, W1 = wr.alloc (.cells #[.int .i64 s.x, .int .i64 s.y, .int .i64 s.d] 122) := ⟨_, rfl⟩
        have hb1 : Below wr.heap.size wr W1 := by rw [hW1]; exact (Below.refl _ _).alloc (Nat.le_refl _) _
        have hlt1 : wr.heap.size < W1.heap.size := by rw [hW1]; simp
        have x0 : W1.cell? ⟨wr.heap.size, 0, none⟩ = some (.int .i64 s.x) := by rw [hW1]; simp
        have x1 : W1.cell? ⟨wr.heap.size, 1, none⟩ = some (.int .i64 s.y) := by rw [hW1]; simp
        have x2 : W1.cell? ⟨wr.heap.size, 2, none⟩ = some (.int .i64 s.d) := by rw [hW1]; simp
        rw [← hW1]
        clear hW1 c0 c1 c2
        have F0 : ∀ u : Later W1.heap.size W1, u.val.cell? ⟨wr.heap.size, 0, none⟩ = some (.int .i64 s.x) := fun u => (u.ok.cell (p := ⟨_, _, none⟩) hlt1).trans x0
        have F1 : ∀ u : Later W1.heap.size W1, u.val.cell? ⟨wr.heap.size, 1, none⟩ = some (.int .i64 s.y) := fun u => (u.ok.cell (p := ⟨_, _, none⟩) hlt1).trans x1
        have F2 : ∀ u : Later W1.heap.size W1, u.val.cell? ⟨wr.heap.size, 2, none⟩ = some (.int .i64 s.d) := fun u => (u.ok.cell (p := ⟨_, _, none⟩) hlt1).trans x2
        have D1 := fun (u : Later W1.heap.size W1) => C1 u.val
        have D2 := fun (u : Later W1.heap.size W1) => C2 u.val
        have D3 := fun (u : Later W1.heap.size W1) => C3 u.val
        clear C1 C2 C3 x0 x1 x2
        refine wp_region_sub W1.heap.size (by kernel_rfl) (by kernel_rfl) ?_
        iterate 16 (first | go_big_quiet_step ((go_at_call 95; first  | (with_reducible exact sub_of _ (Nat.le_refl _) (D1 _)) | (with_reducible exact sub_of _ (Nat.le_refl _) (D2 _)) | (with_reducible exact sub_of _ (Nat.le_refl _) (D3 _)))) | quiet_step ((go_at_call 95; first  | (with_reducible exact sub_of _ (Nat.le_refl _) (D1 _)) | (with_reducible exact sub_of _ (Nat.le_refl _) (D2 _)) | (with_reducible exact sub_of _ (Nat.le_refl _) (D3 _)))))
        refine wpQuiet_nil ?_
        rintro w5 ⟨uu, hu⟩
        have hb5 : Below W1.heap.size W1 w5 := by rw [hu]; exact uu.ok
        clear hu uu F0 F1 F2 D1 D2 D3 u1 u2 u3 u4 u5
        have hbr5 := hbr.trans ((hb1.trans (hb5.mono hb1.size)).mono hbr.size)
        clear hb5 hb1
        go_wp2_with fail
        go_roundw
        case rel => exact ⟨k + 1, by omega, by go_num, by rw [HE1.out], hbr5⟩
        case measure => simp [intOf]; omega
    · obtain rfl : k = n := by omega
      clear hL hs
      go_wp2_with fail
      go_ret
      exact ⟨rfl, hbr⟩
end Go.Proofs.YtbkfenhiaedlgaaDoor
