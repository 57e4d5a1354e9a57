/- NetText: both sides. -/
import Derived.Test.YtbkfenhiaedlgaaDoorCt2
import Derived.Test.YtbkfenhiaedlgaaDoorNetL
set_option linter.all false
namespace Go.Proofs.YtbkfenhiaedlgaaDoor
open Go.RowKit

theorem str58n : (⟨#[58]⟩ : ByteArray) = bas [58] := rfl
theorem str45 : (⟨#[45]⟩ : ByteArray) = bas [45] := rfl
theorem m45 : (⟨#[45]⟩ : ByteArray).data.toList = [45] := rfl
theorem join_snocN (xs : List (List UInt8)) (y sep : List UInt8) : Lib.join (xs ++ [y]) sep = if xs = [] then y else Lib.join xs sep ++ sep ++ y := by
  cases xs with
  | nil => simp [Lib.join_one]
  | cons x r => simp [Lib.join_cons, Lib.joinTail]
def SmW (s : Wi) : Prop := (0 ≤ s.a ∧ s.a ≤ 1000) ∧ (0 ≤ s.b ∧ s.b ≤ 1000)
theorem netG_sm {N : Int} {L : List Wi} (h : NetG N L) : ∀ s ∈ L, SmW s := fun s hs => by
  have hw := h.2.2.1 s hs
  have hN := h.1
  simp only [WOk, SmW] at *
  omega
/-- A wire's text. -/
def wiq (s : Wi) : List UInt8 := dec s.a.toNat ++ 45 :: dec s.b.toNat
theorem wiq_len {s : Wi} (h : SmW s) : (wiq s).length ≤ 20 := by
  have a := dec_6 (n := s.a.toNat) (by have := h.1; omega)
  have b := dec_6 (n := s.b.toNat) (by have := h.2; omega)
  simp [wiq]; omega
/-- A net's text. -/
def ntx (N : Nat) (L : List Wi) : List UInt8 := dec N ++ 58 :: Lib.join (L.map wiq) [44]
theorem ntx_zero (N : Nat) (L : List Wi) : ntx N (L.take 0) = dec N ++ [58] := by simp [ntx, Lib.join_nil]
theorem ntx_first (N : Nat) (L : List Wi) (s : Wi) (h : L[0]? = some s) : ntx N (L.take 1) = ntx N (L.take 0) ++ wiq s := by
  obtain ⟨hk, e⟩ := List.getElem?_eq_some_iff.1 h
  rw [List.take_succ_eq_append_getElem hk, e]; simp [ntx, Lib.join_one, Lib.join_nil]
theorem ntx_succ (N : Nat) (L : List Wi) (k : Nat) (s : Wi) (h : L[k]? = some s) (hk0 : 0 < k) : ntx N (L.take (k + 1)) = ntx N (L.take k) ++ 44 :: wiq s := by
  obtain ⟨hk, e⟩ := List.getElem?_eq_some_iff.1 h
  rw [List.take_succ_eq_append_getElem hk, e]
  simp only [ntx, List.map_append, List.map_cons, List.map_nil, join_snocN]
  rw [if_neg]
  · simp
  · intro hh
    have h1 : (L.take k).length = 0 := by rw [← List.length_map (f := wiq), hh]; rfl
    rw [List.length_take] at h1; omega
theorem ntx_len {N : Nat} (hN : N ≤ 1000) (L : List Wi) (hs : ∀ s ∈ L, SmW s) : (ntx N L).length ≤ 20 + 21 * L.length := by
  have a := dec_6 hN
  have c := join_le (L.map wiq) [44] 20 (fun x hx => by obtain ⟨s, hsm, rfl⟩ := List.mem_map.1 hx; exact wiq_len (hs s hsm))
  simp only [ntx, List.length_append, List.length_cons, List.length_map, List.length_nil] at c ⊢; omega
set_option maxRecDepth 100000 in
set_option maxHeartbeats 8000000 in
theorem neText_any (N : Int) (A : Option Addr) (n c : Nat) (L : List Wi) (w : World) (hl : L.length = n) (hn : n ≤ 100) (hN : 0 ≤ N ∧ N ≤ 1000) (hL : WisAt w w.heap.size A L) (hs : ∀ s ∈ L, SmW s) :
    Calls Tryd.prog 72 #[.agg #[.int .i64 N, .slice A n c]] w fun e w' => e = .returned (.string (bas (ntx N.toNat L))) ∧ Below w.heap.size w w' := by
  subst hl
  have K0 := NBox.start (W := N) (c := c) (t := 51) hL
  have hN6 := dec_6 (n := N.toNat) (by omega)
  have hz := ntx_zero N.toNat L
  obtain ⟨T, hT⟩ : ∃ T : Nat → List UInt8, T = fun k => ntx N.toNat (L.take k) := ⟨_, rfl⟩
  have hTl : ∀ k, (T k).length ≤ 2120 := fun k => by
    have := ntx_len (N := N.toNat) (by omega) (L.take k) (fun s h => hs s (List.mem_of_mem_take h))
    rw [hT]; have h2 : (L.take k).length ≤ L.length := by rw [List.length_take]; omega
    simp only; omega
  have hT0 : T 0 = dec N.toNat ++ [58] := by rw [hT]; exact hz
  have hTf : ∀ s, L[0]? = some s → T 1 = T 0 ++ wiq s := fun s h => by rw [hT]; exact ntx_first _ L s h
  have hTs : ∀ k s, L[k]? = some s → 0 < k → T (k + 1) = T k ++ 44 :: wiq s := fun k s h h0 => by rw [hT]; exact ntx_succ _ L k s h h0
  have hTn : T L.length = ntx N.toNat L := by rw [hT]; simp only; rw [List.take_of_length_le (by omega)]
  obtain ⟨a, ha⟩ : ∃ a, dec N.toNat = a := ⟨_, rfl⟩
  have C1 := numL N hN
  rw [ha] at C1 hN6 hT0
  have sa := bas_size a
  obtain ⟨SA, hSA⟩ : ∃ SA, bas a = SA := ⟨_, rfl⟩
  rw [hSA] at C1 sa
  have u1 : ¬ 9223372036854775807 < SA.size + (⟨#[58]⟩ : ByteArray).size := by have : (⟨#[58]⟩ : ByteArray).size = 1 := rfl; omega
  have u1' : ¬ 9223372036854775807 < SA.size + 1 := by omega
  have HT0 := Lib.hid hT0
  have HTL := Lib.hid hTl
  have HTF := Lib.hid hTf
  have HTS := Lib.hid hTs
  have HTN := Lib.hid hTn
  have HSA := Lib.hid hSA
  have HC1 := Lib.hid C1
  rw [← hTn]
  clear hT hT0 hTl hTs hTf hTn ha hSA hz sa C1
  obtain ⟨B0, kl, k0, k1, k2⟩ := id K0
  go_enter Tryd.func72, Tryd.ntmps72
  go_wp2_with fail
  (with_reducible refine (HC1.out _).mono ?_)
  rintro e w2 ⟨rfl, hb2⟩
  have K2 := K0.next hb2
  clear B0 kl k0 k1 k2 K0 hb2 HC1
  obtain ⟨B2, kl, k0, k1, hW2⟩ := id K2
  have e0 : SA ++ ⟨#[58]⟩ = bas (T 0) := by rw [← HSA.out, str58n, bas_app, HT0.out]
  go_wp2_with fail
  (try rw [e0])
  clear e0 kl k0 k1 u1 u1' K2 hW2
  go_loopw [3, 13] (fun v i wr => ∃ k : Nat, k ≤ L.length ∧ i = .int .i64 k ∧ v = .string (bas (T k)) ∧ Below w.heap.size w wr) (fun _ i _ => L.length - (intOf i).toNat)
  case atStart => exact ⟨0, Nat.zero_le _, rfl, rfl, B2⟩
  case round =>
    obtain ⟨k, hk, rfl, rfl, hbr⟩ := hrel
    by_cases hlt : k < L.length
    · obtain ⟨s, hsk⟩ : ∃ s, L[k]? = some s := ⟨_, List.getElem?_eq_getElem (by omega)⟩
      obtain ⟨b0, off, rfl, hb0, c0, c1⟩ := (hL.below hbr) k s hsk
      have hsm := hs s (List.mem_of_getElem? hsk)
      have hl1 := HTL.out k
      have C1 := fun (V : World) => numL s.a hsm.1 V
      have C2 := fun (V : World) => numL s.b hsm.2 V
      have g1 := dec_6 (n := s.a.toNat) (by have := hsm.1; omega)
      have g2 := dec_6 (n := s.b.toNat) (by have := hsm.2; omega)
      have s1 := bas_size (dec s.a.toNat)
      have s2 := bas_size (dec s.b.toNat)
      have s4 := bas_size (T k)
      have hTf := HTF.out s
      have hTs := HTS.out k s hsk
      unfold wiq at hTf hTs
      obtain ⟨x, hx⟩ : ∃ x, bas (dec s.a.toNat) = x := ⟨_, rfl⟩
      obtain ⟨y, hy⟩ : ∃ y, bas (dec s.b.toNat) = y := ⟨_, rfl⟩
      obtain ⟨TK, hTK⟩ : ∃ TK, bas (T k) = TK := ⟨_, rfl⟩
      rw [hx] at s1 C1
      rw [hy] at s2 C2
      rw [hTK] at s4
      have n44 : (⟨#[44]⟩ : ByteArray).size = 1 := rfl
      have n45 : (⟨#[45]⟩ : ByteArray).size = 1 := rfl
      have u1 : ¬ 9223372036854775807 < x.size + (⟨#[45]⟩ : ByteArray).size := by omega
      have u2 : ¬ 9223372036854775807 < (x ++ ⟨#[45]⟩).size + y.size := by rw [ByteArray.size_append]; omega
      have u5 : ¬ 9223372036854775807 < TK.size + (x ++ ⟨#[45]⟩ ++ y).size := by simp only [ByteArray.size_append]; omega
      have v1 : ¬ 9223372036854775807 < TK.size + (⟨#[44]⟩ : ByteArray).size := by omega
      have v2 : ¬ 9223372036854775807 < (TK ++ ⟨#[44]⟩).size + (x ++ ⟨#[45]⟩ ++ y).size := by simp only [ByteArray.size_append]; omega
      have i1 : (0 : Int) ≤ (k : Int) := by omega
      have i2 : (k : Int) < (L.length : Int) := by omega
      rw [hTK]
      have HX := Lib.hid (And.intro hx (And.intro hy hTK))
      have HTf := Lib.hid hTf
      have HTs := Lib.hid hTs
      have HSK := Lib.hid hsk
      clear hx hy hTK hTf hTs hl1 g1 g2 s1 s2 s4 n44 n45 hsk hsm
      by_cases hk0 : k = 0
      · have e1 : TK ++ (x ++ ⟨#[45]⟩ ++ y) = bas (T (k + 1)) := by
          subst hk0
          obtain ⟨q1, q2, q4⟩ := HX.out
          rw [HTf.out HSK.out, ← q4, ← q1, ← q2, str45]; simp only [bas_app]; simp
        have d1 : decide (0 < k) = false := by simp; omega
        have HE1 := Lib.hid e1
        clear e1 hk0 v1 v2
        go_wp2_with fail
        obtain ⟨W1, hW1⟩ : ∃ W1, W1 = wr.alloc (.cells #[.int .i64 s.a, .int .i64 s.b] 110) := ⟨_, rfl⟩
        have hb1 : Below wr.heap.size wr W1 := by rw [hW1]; exact (Below.refl _ _).alloc (Nat.le_refl _) _
        have hlt1 : wr.heap.size < W1.heap.size := by rw [hW1]; simp
        have x0 : W1.cell? ⟨wr.heap.size, 0, none⟩ = some (.int .i64 s.a) := by rw [hW1]; simp
        have x1 : W1.cell? ⟨wr.heap.size, 1, none⟩ = some (.int .i64 s.b) := by rw [hW1]; simp
        rw [← hW1]
        clear hW1 c0 c1
        have F0 : ∀ u : Later W1.heap.size W1, u.val.cell? ⟨wr.heap.size, 0, none⟩ = some (.int .i64 s.a) := fun u => (u.ok.cell (p := ⟨_, _, none⟩) hlt1).trans x0
        have F1 : ∀ u : Later W1.heap.size W1, u.val.cell? ⟨wr.heap.size, 1, none⟩ = some (.int .i64 s.b) := fun u => (u.ok.cell (p := ⟨_, _, none⟩) hlt1).trans x1
        have D1 := fun (u : Later W1.heap.size W1) => C1 u.val
        have D2 := fun (u : Later W1.heap.size W1) => C2 u.val
        clear C1 C2 x0 x1
        refine wp_region_sub W1.heap.size (by kernel_rfl) (by kernel_rfl) ?_
        iterate 11 (first | go_big_quiet_step ((go_at_call 95; first  | (with_reducible exact sub_of _ (Nat.le_refl _) (D1 _)) | (with_reducible exact sub_of _ (Nat.le_refl _) (D2 _)))) | quiet_step ((go_at_call 95; first  | (with_reducible exact sub_of _ (Nat.le_refl _) (D1 _)) | (with_reducible exact sub_of _ (Nat.le_refl _) (D2 _)))))
        refine wpQuiet_nil ?_
        rintro w5 ⟨uu, hu⟩
        have hb5 : Below W1.heap.size W1 w5 := by rw [hu]; exact uu.ok
        clear hu uu F0 F1 D1 D2 u1 u2 u5
        have hbr5 := hbr.trans ((hb1.trans (hb5.mono hb1.size)).mono hbr.size)
        clear hb5 hb1
        go_wp2_with fail
        go_roundw
        case rel => exact ⟨k + 1, by omega, by go_num, by rw [HE1.out], hbr5⟩
        case measure => simp [intOf]; omega
      · have e1 : TK ++ ⟨#[44]⟩ ++ (x ++ ⟨#[45]⟩ ++ y) = bas (T (k + 1)) := by
          obtain ⟨q1, q2, q4⟩ := HX.out
          rw [HTs.out (by omega), ← q4, ← q1, ← q2, str45, str44]; simp only [bas_app]; simp
        have d1 : decide (0 < k) = true := by simp; omega
        have v3 : ¬ 9223372036854775807 < TK.size + 1 := v1
        have HE1 := Lib.hid e1
        have u5 := v2
        clear e1 hk0 v2
        go_wp2_with fail
        obtain ⟨W1, hW1⟩ : ∃ W1, W1 = wr.alloc (.cells #[.int .i64 s.a, .int .i64 s.b] 110) := ⟨_, rfl⟩
        have hb1 : Below wr.heap.size wr W1 := by rw [hW1]; exact (Below.refl _ _).alloc (Nat.le_refl _) _
        have hlt1 : wr.heap.size < W1.heap.size := by rw [hW1]; simp
        have x0 : W1.cell? ⟨wr.heap.size, 0, none⟩ = some (.int .i64 s.a) := by rw [hW1]; simp
        have x1 : W1.cell? ⟨wr.heap.size, 1, none⟩ = some (.int .i64 s.b) := by rw [hW1]; simp
        rw [← hW1]
        clear hW1 c0 c1
        have F0 : ∀ u : Later W1.heap.size W1, u.val.cell? ⟨wr.heap.size, 0, none⟩ = some (.int .i64 s.a) := fun u => (u.ok.cell (p := ⟨_, _, none⟩) hlt1).trans x0
        have F1 : ∀ u : Later W1.heap.size W1, u.val.cell? ⟨wr.heap.size, 1, none⟩ = some (.int .i64 s.b) := fun u => (u.ok.cell (p := ⟨_, _, none⟩) hlt1).trans x1
        have D1 := fun (u : Later W1.heap.size W1) => C1 u.val
        have D2 := fun (u : Later W1.heap.size W1) => C2 u.val
        clear C1 C2 x0 x1
        refine wp_region_sub W1.heap.size (by kernel_rfl) (by kernel_rfl) ?_
        iterate 11 (first | go_big_quiet_step ((go_at_call 95; first  | (with_reducible exact sub_of _ (Nat.le_refl _) (D1 _)) | (with_reducible exact sub_of _ (Nat.le_refl _) (D2 _)))) | quiet_step ((go_at_call 95; first  | (with_reducible exact sub_of _ (Nat.le_refl _) (D1 _)) | (with_reducible exact sub_of _ (Nat.le_refl _) (D2 _)))))
        refine wpQuiet_nil ?_
        rintro w5 ⟨uu, hu⟩
        have hb5 : Below W1.heap.size W1 w5 := by rw [hu]; exact uu.ok
        clear hu uu F0 F1 D1 D2 u1 u2 u5
        have hbr5 := hbr.trans ((hb1.trans (hb5.mono hb1.size)).mono hbr.size)
        clear hb5 hb1
        go_wp2_with fail
        go_roundw
        case rel => exact ⟨k + 1, by omega, by go_num, by rw [HE1.out], hbr5⟩
        case measure => simp [intOf]; omega
    · obtain rfl : k = L.length := by omega
      clear hL hs
      go_wp2_with fail
      go_ret
      exact ⟨rfl, hbr⟩
end Go.Proofs.YtbkfenhiaedlgaaDoor
