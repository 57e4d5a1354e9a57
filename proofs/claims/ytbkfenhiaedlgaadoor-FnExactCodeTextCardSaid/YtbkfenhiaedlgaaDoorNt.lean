/- Numbers with a mark between them: the program. -/
import Derived.Test.YtbkfenhiaedlgaaDoorTxI
import Derived.Test.YtbkfenhiaedlgaaDoorApp
import Derived.Test.YtbkfenhiaedlgaaDoorShelf
import Derived.Lib.LaidTab
import Derived.Lib.AppendIntMem
set_option linter.all false
namespace Go.Proofs.YtbkfenhiaedlgaaDoor
open Go.RowKit

theorem dec_eq (n : Nat) : Lib.decDigits n = dec n := by
  induction n using Nat.strongRecOn with
  | _ n ih =>
  by_cases h : n < 10
  · rw [dec_small h, Lib.decDigits, dif_pos h]; rfl
  · rw [dec_great h, Lib.decDigits, dif_neg h, ih _ (by omega)]; rfl
theorem itoa_eq (n : Nat) : Lib.itoa (n : Int) = dec n := by
  unfold Lib.itoa; rw [if_neg (by omega), dec_eq]; simp
theorem lens_le (m : Nat) : ∀ (xs : List (List UInt8)), (∀ x ∈ xs, x.length ≤ m) → Lib.lens xs ≤ m * xs.length
  | [], _ => by simp [Lib.lens]
  | x :: xs, h => by
    have h1 := h x (by simp)
    have h2 := lens_le m xs fun y hy => h y (by simp [hy])
    simp only [Lib.lens, List.length_cons, Nat.mul_succ, List.map_cons, List.sum_cons] at h2 ⊢; omega
theorem join_le (xs : List (List UInt8)) (sep : List UInt8) (m : Nat) (h : ∀ x ∈ xs, x.length ≤ m) : (Lib.join xs sep).length ≤ sep.length * xs.length + m * xs.length := by
  cases xs with
  | nil => simp [Lib.join]
  | cons x r =>
    rw [Lib.join_length]
    have h1 := lens_le m (x :: r) h
    have : sep.length * r.length ≤ sep.length * (x :: r).length := Nat.mul_le_mul_left _ (by simp)
    omega
/-- The library's table of powers is there. -/
def TabOk (w : World) : Prop := Lib.TabIs Tryd.prog w "internal/strconv.uint64pow10" .u64 Lib.pow10Tab
theorem TabOk.below {w w' : World} (h : TabOk w) (hb : Below w.heap.size w w') : TabOk w' := by
  unfold TabOk Lib.TabIs World.var? at h ⊢
  cases hg : Tryd.prog.globalNamed "internal/strconv.uint64pow10" with
  | none => rw [hg] at h; cases h
  | some g =>
    rw [hg] at h
    simp only [Option.bind_some] at h ⊢
    have hlt : g < w.heap.size := by
      by_cases hl : g < w.heap.size
      · exact hl
      · rw [Array.getElem?_eq_none (by omega)] at h; cases h
    rw [hb.block g hlt]; exact h
theorem infoStr : (Tryd.prog.info? 9).map (fun i => (i.zero, i.size, i.bytes)) = some (some (.string ⟨#[]⟩), 1, 16) := by kernel_rfl
def strs (R : List Int) : List Value := R.map fun r => .string (bas (dec r.toNat))
theorem itoa_any (r : Int) (hr : 0 ≤ r ∧ r ≤ 1000000) (w : World) (hT : TabOk w) : Calls Tryd.prog 75 #[.int .i64 r] w fun e w' => e = .returned (.string (bas (dec r.toNat))) ∧ Below w.heap.size w w' := by
  obtain ⟨n, rfl⟩ := Int.eq_ofNat_of_zero_le hr.1
  refine (Tryd.strconv_Itoa n (by omega) (by omega) w hT).mono ?_
  rintro e w' ⟨rfl, k, os, rfl⟩
  rw [itoa_eq]
  exact ⟨rfl, Lib.below_grow _ _ (Nat.le_refl _) _ _⟩
set_option maxRecDepth 100000 in
set_option maxHeartbeats 4000000 in
theorem nt_any (mark : ByteArray) (hmk : mark.size ≤ 10) (A : Option Addr) (n c : Nat) (R : List Int) (w : World) (hl : R.length = n) (hn1 : 2 ≤ n) (hn : n ≤ 10) (hR : ∀ r ∈ R, 0 ≤ r ∧ r ≤ 1000000) (hT : TabOk w) (hI : IntsAt w w.heap.size A R) :
    Calls Tryd.prog 53 #[.string mark, .slice A n c] w fun e w' => e = .returned (.string (bas (Lib.join (R.map fun r => dec r.toNat) mark.data.toList))) ∧ Below w.heap.size w w' := by
  obtain ⟨i0, hi, hz0, hz1, hz2⟩ := info_parts infoStr
  go_enter Tryd.func53, Tryd.ntmps53
  go_wp2_with (at_make; refine wpList_make_full _ rfl _ _ 83 rfl w.heap.size 9 i0 (.string ⟨#[]⟩) 1 Tryd.underlying83 hi hz0 hz1 .i64 .i64 n n n rfl rfl rfl rfl (by rw [hz2]; omega) (by unfold maxLen; omega) (Nat.le_refl _) ?_; intro w2 hown hgrow; have hb2 : Below w.heap.size w w2 := (Below.refl _ w).grown hgrow (Nat.le_refl _) (by simp))
  clear hgrow
  go_loopw [13] (fun i wr => ∃ k : Nat, k ≤ n ∧ i = .int .i64 k ∧ Below w.heap.size w wr ∧ ∃ xs, wr.ownsRow w.heap.size 9 1 (.slice (some ⟨w.heap.size, 0, none⟩) n n) n xs ∧ xs.take k = strs (R.take k)) (fun i _ => n - (intOf i).toNat)
  case atStart => exact ⟨0, Nat.zero_le _, rfl, hb2, _, hown, by simp [strs]⟩
  case round =>
    obtain ⟨k, hk, rfl, hbr, xs, ho, ht⟩ := hrel
    clear hown hb2
    by_cases hlt : k < n
    · obtain ⟨u, hu⟩ : ∃ u, R[k]? = some u := ⟨_, List.getElem?_eq_getElem (by omega)⟩
      obtain ⟨b, off, rfl, hb, d0⟩ := hI k u hu
      have d0r : wr.cell? ⟨b, off + k, none⟩ = some (.int .i64 u) := (hbr.cell (p := ⟨b, _, none⟩) hb).trans d0
      have C1 := Lib.hid (itoa_any u (hR u (List.mem_of_getElem? hu)) wr (hT.below hbr))
      have HT := Lib.hid (show strs (R.take (k + 1)) = strs (R.take k) ++ [.string (bas (dec u.toNat))] by
        obtain ⟨hk, e⟩ := List.getElem?_eq_some_iff.1 hu
        rw [List.take_succ_eq_append_getElem hk, e]; simp [strs])
      have i0' : (0 : Int) ≤ (k : Int) := by omega
      have i1 : (k : Int) < (n : Int) := by omega
      have HO := Lib.hid ho
      have HTK := Lib.hid ht
      clear hI hu d0 ho ht hR
      go_wp2_with fail
      (with_reducible refine C1.out.mono ?_)
      rintro e w3 ⟨rfl, hb3⟩
      have hbr3 := hbr.trans (hb3.mono hbr.size)
      have own3 := own_keep HO.out hb3
      have hgl := (own_lt own3).2
      obtain ⟨v0, e0⟩ := own_some own3 (j := k) (by omega)
      have f0 := own3.frozenAt k
      have hx := own3.1
      obtain ⟨S, hS⟩ : ∃ S, bas (dec u.toNat) = S := ⟨_, rfl⟩
      rw [hS] at HT ⊢
      clear C1 hb3 HO hS d0r
      go_wp2_with fail
      have R4 := (own3.stored k (.string S)).1
      have hB4 := hbr3.setCell (p := ⟨w.heap.size, k, none⟩) (Nat.le_refl _) (.string S)
      go_roundw
      case rel => exact ⟨k + 1, by omega, by go_num, hB4, _, R4, by rw [take_set1 _ _ _ (by omega), HTK.out, HT.out]⟩
      case measure => simp [intOf]; omega
    · obtain rfl : k = n := by omega
      have hx := ho.1
      have hlt := own_lt ho
      rw [List.take_of_length_le (by omega), List.take_of_length_le (by omega)] at ht
      subst ht
      obtain ⟨X, hX⟩ : ∃ X : List ByteArray, X = R.map fun r => bas (dec r.toNat) := ⟨_, rfl⟩
      have hXl : X.length = k := by rw [hX, List.length_map, hl]
      have hcells : ∀ (j : Nat) x, X[j]? = some x → wr.cell? ⟨w.heap.size, 0 + j, none⟩ = some (.string x) := fun j x hj => by
        have hjl : j < k := by rw [← hXl]; exact (List.getElem?_eq_some_iff.1 hj).1
        rw [Nat.zero_add, ho.cellAt j (by omega)]
        rw [hX, List.getElem?_map] at hj
        unfold strs
        rw [List.getElem?_map]
        cases hq : R[j]? with
        | none => rw [hq] at hj; cases hj
        | some r => rw [hq] at hj; simp at hj; rw [← hj]; rfl
      have hbl : ∀ r ∈ R, (dec r.toNat).length ≤ 7 := fun r hr => dec_len _ 6 (by have := hR r hr; omega)
      have hjl : (Lib.join (X.map (·.data.toList)) mark.data.toList).length ≤ 140737488355328 := by
        have h1 := join_le (X.map (·.data.toList)) mark.data.toList 7 (fun x hx => by
          rw [hX, List.map_map] at hx
          obtain ⟨r, hr, rfl⟩ := List.mem_map.1 hx
          exact hbl r hr)
        rw [List.length_map, hXl] at h1
        have h2 : mark.data.toList.length ≤ 10 := by rw [Array.length_toList]; exact hmk
        have h3 : mark.data.toList.length * k ≤ 10 * 10 := Nat.mul_le_mul h2 hn
        omega
      have e1 : X.map (·.data.toList) = R.map fun r => dec r.toNat := by rw [hX, List.map_map]; rfl
      have CJ := Tryd.strings_Join w.heap.size 0 k X mark wr hcells hlt.2 (by omega) (by omega) hjl
      rw [hXl, e1] at CJ
      have CJ := Lib.hid CJ
      clear hcells hjl e1 hX hXl hbl ho hx hR hI hl
      go_wp2_with fail
      (with_reducible refine CJ.out.mono ?_)
      rintro e w9 ⟨rfl, hb9⟩
      go_wp2_with fail
      go_ret
      exact ⟨rfl, hbr.trans (hb9.mono hbr.size)⟩
end Go.Proofs.YtbkfenhiaedlgaaDoor
