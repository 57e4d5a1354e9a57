/- Texts of groups: the program. -/
import Derived.Test.YtbkfenhiaedlgaaDoorCd0
import Derived.Test.YtbkfenhiaedlgaaDoorEach
set_option linter.all false
namespace Go.Proofs.YtbkfenhiaedlgaaDoor
open Go.RowKit

set_option maxRecDepth 100000 in
set_option maxHeartbeats 4000000 in
theorem nt30_any (mark : ByteArray) (hmk : mark.size ≤ 10) (A : Option Addr) (n c : Nat) (R : List Int) (w : World) (hl : R.length = n) (hn1 : 1 ≤ n) (hn : n ≤ 30) (hR : ∀ r ∈ R, 0 ≤ r ∧ r ≤ 1000000) (hT : TabOk w) (hI : IntsAt w w.heap.size A R) :
    Calls Tryd.prog 53 #[.string mark, .slice A n c] w fun e w' => e = .returned (.string (bas (Lib.join (R.map fun r => dec r.toNat) mark.data.toList))) ∧ Below w.heap.size w w' := by
  obtain ⟨i0, hi, hz0, hz1, hz2⟩ := info_parts infoStr
  go_enter Tryd.func53, Tryd.ntmps53
  go_wp2_with (at_make; refine wpList_make_full _ rfl _ _ 83 rfl w.heap.size 9 i0 (.string ⟨#[]⟩) 1 Tryd.underlying83 hi hz0 hz1 .i64 .i64 n n n rfl rfl rfl rfl (by rw [hz2]; omega) (by unfold maxLen; omega) (Nat.le_refl _) ?_; intro w2 hown hgrow; have hb2 : Below w.heap.size w w2 := (Below.refl _ w).grown hgrow (Nat.le_refl _) (by simp))
  clear hgrow
  go_loopw [13] (fun i wr => ∃ k : Nat, k ≤ n ∧ i = .int .i64 k ∧ Below w.heap.size w wr ∧ ∃ xs, wr.ownsRow w.heap.size 9 1 (.slice (some ⟨w.heap.size, 0, none⟩) n n) n xs ∧ xs.take k = strs (R.take k)) (fun i _ => n - (intOf i).toNat)
  case atStart => exact ⟨0, Nat.zero_le _, rfl, hb2, _, hown, by simp [strs]⟩
  case round =>
    obtain ⟨k, hk, rfl, hbr, xs, ho, ht⟩ := hrel
    clear hown hb2
    by_cases hlt : k < n
    · obtain ⟨u, hu⟩ : ∃ u, R[k]? = some u := ⟨_, List.getElem?_eq_getElem (by omega)⟩
      obtain ⟨b, off, rfl, hb, d0⟩ := hI k u hu
      have d0r : wr.cell? ⟨b, off + k, none⟩ = some (.int .i64 u) := (hbr.cell (p := ⟨b, _, none⟩) hb).trans d0
      have C1 := Lib.hid (itoa_any u (hR u (List.mem_of_getElem? hu)) wr (hT.below hbr))
      have HT := Lib.hid (show strs (R.take (k + 1)) = strs (R.take k) ++ [.string (bas (dec u.toNat))] by
        obtain ⟨hk, e⟩ := List.getElem?_eq_some_iff.1 hu
        rw [List.take_succ_eq_append_getElem hk, e]; simp [strs])
      have i0' : (0 : Int) ≤ (k : Int) := by omega
      have i1 : (k : Int) < (n : Int) := by omega
      have HO := Lib.hid ho
      have HTK := Lib.hid ht
      clear hI hu d0 ho ht hR
      go_wp2_with fail
      (with_reducible refine C1.out.mono ?_)
      rintro e w3 ⟨rfl, hb3⟩
      have hbr3 := hbr.trans (hb3.mono hbr.size)
      have own3 := own_keep HO.out hb3
      have hgl := (own_lt own3).2
      obtain ⟨v0, e0⟩ := own_some own3 (j := k) (by omega)
      have f0 := own3.frozenAt k
      have hx := own3.1
      obtain ⟨S, hS⟩ : ∃ S, bas (dec u.toNat) = S := ⟨_, rfl⟩
      rw [hS] at HT ⊢
      clear C1 hb3 HO hS d0r
      go_wp2_with fail
      have R4 := (own3.stored k (.string S)).1
      have hB4 := hbr3.setCell (p := ⟨w.heap.size, k, none⟩) (Nat.le_refl _) (.string S)
      go_roundw
      case rel => exact ⟨k + 1, by omega, by go_num, hB4, _, R4, by rw [take_set1 _ _ _ (by omega), HTK.out, HT.out]⟩
      case measure => simp [intOf]; omega
    · obtain rfl : k = n := by omega
      have hx := ho.1
      have hlt := own_lt ho
      rw [List.take_of_length_le (by omega), List.take_of_length_le (by omega)] at ht
      subst ht
      obtain ⟨X, hX⟩ : ∃ X : List ByteArray, X = R.map fun r => bas (dec r.toNat) := ⟨_, rfl⟩
      have hXl : X.length = k := by rw [hX, List.length_map, hl]
      have hcells : ∀ (j : Nat) x, X[j]? = some x → wr.cell? ⟨w.heap.size, 0 + j, none⟩ = some (.string x) := fun j x hj => by
        have hjl : j < k := by rw [← hXl]; exact (List.getElem?_eq_some_iff.1 hj).1
        rw [Nat.zero_add, ho.cellAt j (by omega)]
        rw [hX, List.getElem?_map] at hj
        unfold strs
        rw [List.getElem?_map]
        cases hq : R[j]? with
        | none => rw [hq] at hj; cases hj
        | some r => rw [hq] at hj; simp at hj; rw [← hj]; rfl
      have hbl : ∀ r ∈ R, (dec r.toNat).length ≤ 7 := fun r hr => dec_len _ 6 (by have := hR r hr; omega)
      have hjl : (Lib.join (X.map (·.data.toList)) mark.data.toList).length ≤ 140737488355328 := by
        have h1 := join_le (X.map (·.data.toList)) mark.data.toList 7 (fun x hx => by
          rw [hX, List.map_map] at hx
          obtain ⟨r, hr, rfl⟩ := List.mem_map.1 hx
          exact hbl r hr)
        rw [List.length_map, hXl] at h1
        have h2 : mark.data.toList.length ≤ 10 := by rw [Array.length_toList]; exact hmk
        have h3 : mark.data.toList.length * k ≤ 10 * 30 := Nat.mul_le_mul h2 hn
        omega
      have e1 : X.map (·.data.toList) = R.map fun r => dec r.toNat := by rw [hX, List.map_map]; rfl
      have CJ := Tryd.strings_Join w.heap.size 0 k X mark wr hcells hlt.2 (by omega) (by omega) hjl
      rw [hXl, e1] at CJ
      have CJ := Lib.hid CJ
      clear hcells hjl e1 hX hXl hbl ho hx hR hI hl
      go_wp2_with fail
      (with_reducible refine CJ.out.mono ?_)
      rintro e w9 ⟨rfl, hb9⟩
      go_wp2_with fail
      go_ret
      exact ⟨rfl, hbr.trans (hb9.mono hbr.size)⟩
theorem m44c : (⟨#[44]⟩ : ByteArray).data.toList = [44] := rfl
set_option maxRecDepth 100000 in
set_option maxHeartbeats 2000000 in
theorem gtext_any (x y d : Int) (r : Rw) (w : World) (h1 : 1 ≤ r.L.length) (hs : Sm r.L) (hI : IntsAt w w.heap.size r.A r.L) (hT : TabOk w) :
    Calls Tryd.prog 68 #[.agg #[.int .i64 x, .int .i64 y, .int .i64 d, .slice r.A r.L.length r.c]] w fun e w' => e = .returned (.string (bas (grt r.L))) ∧ Below w.heap.size w w' := by
  have hb0 : Below w.heap.size w (w.alloc (.cells #[.int .i64 x, .int .i64 y, .int .i64 d, .slice r.A r.L.length r.c] 103)) := (Below.refl _ _).alloc (Nat.le_refl _) _
  have C := nt30_any ⟨#[44]⟩ (by decide) r.A r.L.length r.c r.L (w.alloc (.cells #[.int .i64 x, .int .i64 y, .int .i64 d, .slice r.A r.L.length r.c] 103)) rfl h1 hs.1 (fun s h => by have := hs.2 s h; omega) (hT.below hb0) ((hI.below hb0).mono hb0.size)
  rw [m44c] at C
  have hj := dcs_len hs r.L.length
  rw [List.take_of_length_le (Nat.le_refl _)] at hj
  have hg : grt r.L = 40 :: (Lib.join (r.L.map fun r => dec r.toNat) [44] ++ [41]) := rfl
  rw [hg]
  obtain ⟨J, hJ⟩ : ∃ J, (Lib.join (r.L.map fun r => dec r.toNat) [44]) = J := ⟨_, rfl⟩
  rw [hJ] at C ⊢
  have hj : J.length ≤ 200 := by rw [← hJ]; exact hj
  have sj := bas_size J
  obtain ⟨SJ, hSJ⟩ : ∃ SJ, bas J = SJ := ⟨_, rfl⟩
  rw [hSJ] at C sj
  have n40 : (⟨#[40]⟩ : ByteArray).size = 1 := rfl
  have n41 : (⟨#[41]⟩ : ByteArray).size = 1 := rfl
  have u1 : ¬ 9223372036854775807 < (⟨#[40]⟩ : ByteArray).size + SJ.size := by omega
  have u2 : ¬ 9223372036854775807 < (⟨#[40]⟩ ++ SJ : ByteArray).size + (⟨#[41]⟩ : ByteArray).size := by rw [ByteArray.size_append]; omega
  have e1 : (⟨#[40]⟩ ++ SJ ++ ⟨#[41]⟩ : ByteArray) = bas (40 :: (J ++ [41])) := by
    rw [← hSJ, str40, str41, bas_app, bas_app]; simp
  have HE := Lib.hid e1
  have HC := Lib.hid C
  clear e1 hSJ hJ hg C n40 n41 hj sj
  go_enter Tryd.func68, Tryd.ntmps68
  go_wp2_with fail
  (with_reducible refine HC.out.mono ?_)
  rintro e w3 ⟨rfl, hb3⟩
  go_wp2_with fail
  go_ret
  exact ⟨by rw [← HE.out]; rfl, hb0.trans (hb3.mono hb0.size)⟩
set_option maxRecDepth 100000 in
set_option maxHeartbeats 4000000 in
theorem eachT_any (A : Option Addr) (n c base : Nat) (G : List Gp) (w : World) (hn : n ≤ 30) (ho : OwnG w base A n c G) (hG : ∀ g ∈ G, 1 ≤ g.r.L.length ∧ Sm g.r.L) (hT : TabOk w) :
    Calls Tryd.prog 66 #[.slice A n c, .func (.func 68) #[] #[]] w fun e w' => e = .returned (.slice (some ⟨w.heap.size, 0, none⟩) n n) ∧ w'.ownsRow w.heap.size 9 1 (.slice (some ⟨w.heap.size, 0, none⟩) n n) n (G.map fun g => Value.string (bas (grt g.r.L))) ∧ Below w.heap.size w w' := by
  obtain ⟨i0, hi, hz0, hz1, hz2⟩ := info_parts infoStr
  have HLEN := Lib.hid ho.len
  have HTT := Lib.hid (fun V (hb : Below w.heap.size w V) => hT.below hb)
  go_enter Tryd.func66, Tryd.ntmps66
  go_wp2_with (at_make; refine wpList_make_full _ rfl _ _ 83 rfl w.heap.size 9 i0 (.string ⟨#[]⟩) 1 Tryd.underlying83 hi hz0 hz1 .i64 .i64 n n n rfl rfl rfl rfl (by rw [hz2]; omega) (by unfold maxLen; omega) (Nat.le_refl _) ?_; intro w2 hown hgrow)
  have hb2 : Below w.heap.size w w2 := (Below.refl _ w).grown hgrow (Nat.le_refl _) (by simp)
  clear hgrow
  obtain ⟨g0, hg0⟩ : ∃ g, g = w.heap.size := ⟨_, rfl⟩
  rw [← hg0] at hown ⊢
  have HG0 := Lib.hid hg0
  go_loopw [13] (fun i wr => ∃ k : Nat, k ≤ n ∧ i = .int .i64 k ∧ Below w.heap.size w wr ∧ ∃ xs, wr.ownsRow w.heap.size 9 1 (.slice (some ⟨g0, 0, none⟩) n n) n xs ∧ xs.take k = (G.take k).map fun g => Value.string (bas (grt g.r.L))) (fun i _ => n - (intOf i).toNat)
  case atStart => exact ⟨0, Nat.zero_le _, rfl, hb2, _, (by rw [← hg0]; exact hown), by simp⟩
  case round =>
    obtain ⟨k, hk, rfl, hbr, xs, hown1, htake⟩ := hrel
    have hs1 := hbr.size
    by_cases hlt : k < n
    · have hlen := HLEN.out
      obtain ⟨g, hg⟩ : ∃ g, G[k]? = some g := ⟨_, List.getElem?_eq_getElem (by omega)⟩
      obtain ⟨a0, rfl⟩ := own_form ho.outer (by omega)
      have ha0 := (own_lt ho.outer).2
      have e1 : G = G.take k ++ g :: G.drop (k + 1) := by
        have h1 := List.take_append_drop k G
        rw [List.drop_eq_getElem_cons (by omega : k < G.length), (List.getElem?_eq_some_iff.1 hg).2] at h1
        exact h1.symm
      have hlk : (G.take k).length = k := by rw [List.length_take]; omega
      have hcell : ∀ j v, (gpV g)[j]? = some v → wr.cell? ⟨a0, k * 4 + j, none⟩ = some v := fun j v hv => by
        have hj : j < 4 := by have := (List.getElem?_eq_some_iff.1 hv).1; simpa [gpV] using this
        rw [hbr.cell (p := ⟨a0, _, none⟩) ha0, ho.outer.cellAt (k * 4 + j) (by omega), e1]
        have := flatG_get (G.take k) (G.drop (k + 1)) g j v hv
        rwa [hlk] at this
      have c0 : wr.cell? ⟨a0, k * 4, none⟩ = some (.int .i64 g.s.x) := by simpa using hcell 0 _ rfl
      have c1 := hcell 1 _ rfl
      have c2 := hcell 2 _ rfl
      have c3 : wr.cell? ⟨a0, k * 4 + 3, none⟩ = some (.slice g.r.A g.r.L.length g.r.c) := hcell 3 _ rfl
      have e2 : (G.take (k + 1)).map (fun g => Value.string (bas (grt g.r.L))) = (G.take k).map (fun g => Value.string (bas (grt g.r.L))) ++ [Value.string (bas (grt g.r.L))] := by rw [List.take_add_one, hg]; simp
      have HE := Lib.hid e2
      have HT := Lib.hid htake
      have hx := hown1.1
      have hgg := own_lt hown1
      have k0 : (0 : Int) ≤ (k : Int) := by omega
      have k1 : (k : Int) < (n : Int) := by omega
      have hgm := List.mem_of_getElem? hg
      have hgg2 := hG g hgm
      have HIT := Lib.hid (fun V (hb : Below w.heap.size w V) => ints_of_own (own_keep (ho.inner.own g.r (List.mem_map.2 ⟨g, hgm, rfl⟩)) hb))
      have HLL := Lib.hid hgg2.1
      have HSS := Lib.hid hgg2.2
      clear hcell e1 e2 hlk hg ho hlen htake hg0 hgm hgg2
      go_wp2_with fail
      refine (gtext_any g.s.x g.s.y g.s.d g.r _ HLL.out HSS.out (HIT.out _ (hbr.alloc hbr.size _)) (HTT.out _ (hbr.alloc hbr.size _))).mono ?_
      rintro e w3 ⟨rfl, hb3⟩
      have hbx : Below wr.heap.size wr w3 := ((Below.refl wr.heap.size wr).alloc (Nat.le_refl _) _).trans (hb3.mono (show wr.heap.size ≤ _ by simp))
      have hown3 := own_keep hown1 hbx
      obtain ⟨ST, hST⟩ : ∃ ST, bas (grt g.r.L) = ST := ⟨_, rfl⟩
      rw [hST] at HE ⊢
      obtain ⟨v0, y0⟩ := own_some hown3 (j := k) (by omega)
      have z0 := hown3.frozenAt k
      have R := (hown3.stored k (Value.string ST)).1
      have hB3 := (hbr.trans (hbx.mono hs1)).setCell (p := ⟨g0, k, none⟩) hgg.1 (Value.string ST)
      clear hb3 hbx hown1 hown3 c0 c1 c2 c3 hbr
      go_wp2_with fail
      go_roundw
      case rel => exact ⟨k + 1, by omega, by go_num, hB3, _, R, by rw [take_set1 _ _ _ (by omega), HT.out, HE.out]⟩
      case measure => simp [intOf]; omega
    · obtain rfl : k = n := by omega
      have hx := hown1.1
      rw [List.take_of_length_le (by omega), List.take_of_length_le (by have := HLEN.out; omega)] at htake
      subst htake
      have hg0 := HG0.out
      subst hg0
      go_wp2_with fail
      go_ret
      exact ⟨rfl, hown1, hbr⟩

end Go.Proofs.YtbkfenhiaedlgaaDoor
