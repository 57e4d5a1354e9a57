/- The program's reading of numbers with a mark between them. -/
import Derived.Test.YtfkifcjjkaenhaaGreatDoorSpP
import Derived.Shelf.Strings.SplitShaped
import Derived.Shelf.Strconv.AtoiAll
import Derived.SevenTiedAt
set_option linter.all false
namespace Go.Proofs.YtfkifcjjkaenhaaGreatDoor
open Go.RowKit

def MaxOk (w : World) : Prop := ∃ m, w.cell? ⟨0, 0, none⟩ = some (.int .i64 m)
def ErrOk (w : World) : Prop := (∃ te pe, w.cell? ⟨1, 0, none⟩ = some (.iface te pe)) ∧ (∃ te pe, w.cell? ⟨2, 0, none⟩ = some (.iface te pe))
theorem MaxOk.below {w w' : World} (h : MaxOk w) (hb : Below w.heap.size w w') : MaxOk w' := by
  obtain ⟨m, hm⟩ := h
  exact ⟨m, (hb.cell (p := ⟨0, 0, none⟩) (Lib.lt_of_cell hm)).trans hm⟩
theorem ErrOk.below {w w' : World} (h : ErrOk w) (hb : Below w.heap.size w w') : ErrOk w' := by
  obtain ⟨⟨a, b, h1⟩, ⟨c, d, h2⟩⟩ := h
  exact ⟨⟨a, b, (hb.cell (p := ⟨1, 0, none⟩) (Lib.lt_of_cell h1)).trans h1⟩, ⟨c, d, (hb.cell (p := ⟨2, 0, none⟩) (Lib.lt_of_cell h2)).trans h2⟩⟩
/-- What the library's variables hold. -/
structure StrOk (w : World) : Prop where
  tab : TabOk w
  max : MaxOk w
  err : ErrOk w
theorem StrOk.below {w w' : World} (h : StrOk w) (hb : Below w.heap.size w w') : StrOk w' := ⟨h.tab.below hb, h.max.below hb, h.err.below hb⟩
/-- Texts in a block. -/
def TxAt (w : World) (g : Nat) (R : List (List UInt8)) : Prop := g < w.heap.size ∧ ∀ j t, R[j]? = some t → w.cell? ⟨g, j, none⟩ = some (.string (bas t))
theorem TxAt.below {w w' : World} {g : Nat} {R : List (List UInt8)} (h : TxAt w g R) (hb : Below w.heap.size w w') : TxAt w' g R :=
  ⟨Nat.lt_of_lt_of_le h.1 hb.size, fun j t ht => (hb.cell (p := ⟨g, j, none⟩) h.1).trans (h.2 j t ht)⟩
/-- A text of the row. -/
theorem TxAt.of_own {w : World} {base g n c : Nat} {R : List (List UInt8)} (ho : w.ownsRow base 9 1 (.slice (some ⟨g, 0, none⟩) n c) n (txs R)) (hn : 0 < n) : TxAt w g R := by
  refine ⟨(own_lt ho).2, fun j t hj => ?_⟩
  have hx := ho.1
  have hjl : j < n := by have := (List.getElem?_eq_some_iff.1 hj).1; unfold txs at hx; simp at hx; omega
  rw [ho.cellAt j (by omega)]
  unfold txs
  rw [List.getElem?_map, hj]; rfl
theorem splitN_any (l : List UInt8) (b : UInt8) (n : Nat) (hl : l.length ≤ 1048576) (hn : 1 ≤ n ∧ n ≤ 1000) (w : World) (hM : MaxOk w) :
    Calls Tryz.prog 12 #[.string (bas l), .string (bas [b]), .int .i64 n] w fun e w' =>
      ∃ c, e = .returned (.slice (some ⟨w.heap.size, 0, none⟩) (Lib.splitN l [b] n).length c) ∧ w'.ownsRow w.heap.size 9 1 (.slice (some ⟨w.heap.size, 0, none⟩) (Lib.splitN l [b] n).length c) (Lib.splitN l [b] n).length (txs (Lib.splitN l [b] n)) ∧ Below w.heap.size w w' := by
  obtain ⟨m, hm⟩ := hM
  have hsz := bas_size l
  have h1 : (bas [b]).size = 1 := by simp [bas, ByteArray.size]
  refine (Tryz.strings_SplitN (bas l) (bas [b]) n m w (by omega) hm (by omega) hn.1 (by omega)).mono ?_
  rintro e w' ⟨rfl, rfl⟩
  rw [splitB_bas]
  have hle := splitN_len b hn.1 l
  rw [← hsz] at hle
  refine ⟨_, by rw [List.length_map], ⟨by simp [txs], .inr ⟨w.heap.size, _, _, rfl, Nat.le_refl _, heap_alloc_new w _, hle, by unfold maxLen; omega, ?_, ?_⟩⟩, (Below.refl _ _).alloc (Nat.le_refl _) _⟩
  · rw [Lib.cellsOf_size (by rw [List.length_map]; exact hle)]; omega
  · unfold Lib.cellsOf
    rw [List.toList_toArray, Nat.mul_one, List.take_append_of_le_length (by simp), List.take_of_length_le (by simp)]
    unfold txs
    rw [List.map_map]; rfl
theorem atoi_any (t : List UInt8) (ht : t.length ≤ 1048576) (w : World) (hE : ErrOk w) :
    Calls Tryz.prog 25 #[.string (bas t)] w fun e w' => Below w.heap.size w w' ∧
      ((∃ v, Lib.atoiAll t = .ok v ∧ e = .returned (.tuple #[.int .i64 v, .nilIface])) ∨
       ((∀ v, Lib.atoiAll t ≠ .ok v) ∧ ∃ v te pe, e = .returned (.tuple #[.int .i64 v, .iface te pe]))) := by
  obtain ⟨⟨te, pe, h1⟩, ⟨te', pe', h2⟩⟩ := hE
  have hsz := bas_size t
  have hd := bas_data t
  cases h : Lib.atoiAll t with
  | ok v =>
    refine (Tryz.strconv_Atoi_ok (bas t) (by omega) v (by rw [hd]; exact h) w).mono ?_
    rintro e w' ⟨rfl, hw⟩
    refine ⟨?_, .inl ⟨v, rfl, rfl⟩⟩
    rcases hw with rfl | ⟨u, rfl⟩
    · exact Below.refl _ _
    · exact Lib.bytesWorld_below _ _ _
  | «syntax» =>
    refine (Tryz.strconv_Atoi_syntax (bas t) (by omega) (by rw [hd]; exact h) _ w h1 (.inr ⟨_, _, rfl⟩)).mono ?_
    rintro e w' ⟨N, rfl, _, _, hb⟩
    exact ⟨hb, .inr ⟨fun v e => (by cases e), _, _, _, rfl⟩⟩
  | range =>
    refine (Tryz.strconv_Atoi_range (bas t) (by omega) (by rw [hd]; exact h) _ w h2 (.inr ⟨_, _, rfl⟩)).mono ?_
    rintro e w' ⟨N, rfl, _, _, hb⟩
    exact ⟨hb, .inr ⟨fun v e => (by cases e), _, _, _, rfl⟩⟩
theorem itoaN_any (n : Nat) (hn : n ≤ 9223372036854775807) (w : World) (hT : TabOk w) : Calls Tryz.prog 26 #[.int .i64 n] w fun e w' => e = .returned (.string (bas (dec n))) ∧ Below w.heap.size w w' := by
  refine (Tryz.strconv_Itoa n (by omega) (by omega) w hT).mono ?_
  rintro e w' ⟨rfl, k, os, rfl⟩
  rw [itoa_eq]
  exact ⟨rfl, Lib.below_grow _ _ (Nat.le_refl _) _ _⟩
def nints (R : List Nat) : List Value := R.map fun (r : Nat) => Value.int .i64 (r : Int)
/-- What parseNumbers returns. -/
def RetPn (w : World) (b : UInt8) (count : Nat) (l : List UInt8) (e : Ending) (w' : World) : Prop :=
  Below w.heap.size w w' ∧ ((∃ (R : List Nat) (g : Nat), Nums b count l R ∧ e = .returned (.tuple #[.slice (some ⟨g, 0, none⟩) count count, .bool true]) ∧ w'.ownsRow w.heap.size 3 1 (.slice (some ⟨g, 0, none⟩) count count) count (nints R)) ∨
    ((∀ R, ¬ Nums b count l R) ∧ e = .returned (.tuple #[.slice none 0 0, .bool false])))
theorem nums_bad {b : UInt8} (hb : dg b = false) {count : Nat} (hc : 1 ≤ count) {l t : List UInt8} {k : Nat} (ht : (Lib.splitN l [b] count)[k]? = some t) (hno : ∀ n : Nat, n < 9223372036854775808 → t ≠ dec n) : ∀ R, ¬ Nums b count l R := fun R h => by
  have e := nums_fields hb hc h
  rw [e, List.getElem?_map] at ht
  cases hr : R[k]? with
  | none => rw [hr] at ht; cases ht
  | some r => rw [hr] at ht; exact hno r (h.2.2 r (List.mem_of_getElem? hr)) (Option.some.inj ht).symm
set_option maxRecDepth 100000 in
set_option maxHeartbeats 8000000 in
theorem pn_any (l : List UInt8) (b : UInt8) (hb : dg b = false) (count : Nat) (hc : 1 ≤ count ∧ count ≤ 40) (hl : l.length ≤ 1048576) (w : World) (hS : StrOk w) :
    Calls Tryz.prog 13 #[.string (bas l), .string (bas [b]), .int .i64 count] w (RetPn w b count l) := by
  have C1 := Lib.hid (splitN_any l b count hl (by omega) w hS.max)
  have HP := Lib.hid (piece_len b (xs := Lib.splitN l [b] count))
  have HJ := Lib.hid (splitN_join b count l)
  have HB := Lib.hid (fun k t => nums_bad (l := l) (k := k) (t := t) hb hc.1)
  have HF := Lib.hid (fun R => nums_fields (s := l) (R := R) hb hc.1)
  obtain ⟨F, hF⟩ : ∃ F, F = Lib.splitN l [b] count := ⟨_, rfl⟩
  rw [← hF] at C1 HP HJ HF
  have HFF := Lib.hid hF
  clear hF
  obtain ⟨SL, hSL⟩ : ∃ SL, bas l = SL := ⟨_, rfl⟩
  obtain ⟨SB, hSB⟩ : ∃ SB, bas [b] = SB := ⟨_, rfl⟩
  rw [hSL, hSB] at C1 ⊢
  clear hSL hSB
  obtain ⟨hc1, hc2⟩ := hc
  by_cases hlen : F.length = count
  · obtain ⟨i0, hi, hz0, hz1, hz2⟩ := info_parts infoInt
    have z0 : ¬ ((F.length : Nat) : Int) ≠ (count : Int) := by omega
    go_enter Tryz.func13, Tryz.ntmps13
    go_wp2_with fail
    (with_reducible refine C1.out.mono ?_)
    rintro e w2 ⟨c, rfl, hoF, hb2⟩
    have hcap := own_cap hoF
    have hT := TxAt.of_own hoF (by omega)
    have hsz2 := hb2.size
    have S2 := hS.below hb2
    obtain ⟨g, hg⟩ : ∃ g, g = w.heap.size := ⟨_, rfl⟩
    rw [← hg] at hT ⊢
    have HG := Lib.hid hg
    clear C1 hg hoF
    go_wp2_with (at_make; refine wpList_make_full _ rfl _ _ 32 rfl w2.heap.size 3 i0 (.int .i64 0) 1 Tryz.underlying32 hi hz0 hz1 .i64 .i64 count count count rfl rfl rfl rfl (by rw [hz2]; omega) (by unfold maxLen; omega) (Nat.le_refl _) ?_; intro w3 hown hgrow; have hb3 : Below w2.heap.size w2 w3 := (Below.refl _ w2).grown hgrow (Nat.le_refl _) (by simp))
    clear hgrow
    obtain ⟨n0, hn0⟩ : ∃ n0, n0 = w2.heap.size := ⟨_, rfl⟩
    rw [← hn0] at hown hb3 ⊢
    have HN0 := Lib.hid hn0
    have hle : w.heap.size ≤ n0 := by omega
    have hb03 : Below w.heap.size w w3 := hb2.trans (hb3.mono hle)
    have hT3 : TxAt w3 g F := hT.below (by rw [← hn0]; exact hb3)
    have S3 := S2.below (by rw [← hn0]; exact hb3)
    have hg3 : g < n0 := by have := hT.1; omega
    have h3s : n0 ≤ w3.heap.size := by rw [hn0]; exact (by rw [← hn0]; exact hb3 : Below w2.heap.size w2 w3).size
    clear hn0 hT S2 hb3
    go_loopw [26] (fun i wr => ∃ (k : Nat) (R : List Nat), k ≤ count ∧ i = .int .i64 k ∧ Below n0 w3 wr ∧ R.length = k ∧ F.take k = R.map dec ∧ (∀ r ∈ R, r < 9223372036854775808) ∧ ∃ xs, wr.ownsRow n0 3 1 (.slice (some ⟨n0, 0, none⟩) count count) count xs ∧ xs.take k = nints R) (fun i _ => count - (intOf i).toNat)
    case atStart => exact ⟨0, [], Nat.zero_le _, rfl, Below.refl _ _, rfl, by simp, by simp, _, hown, by simp [nints]⟩
    case round =>
      obtain ⟨k, R, hk, rfl, hbr, hRl, hFR, hRs, xs, ho, hx⟩ := hrel
      clear hown
      have hbw : Below w.heap.size w wr := hb03.trans (hbr.mono hle)
      by_cases hlt : k < count
      · obtain ⟨t, ht⟩ : ∃ t, F[k]? = some t := ⟨_, List.getElem?_eq_getElem (by omega)⟩
        have e0 : wr.cell? ⟨g, k, none⟩ = some (.string (bas t)) := (hbr.cell (p := ⟨g, k, none⟩) hg3).trans (hT3.2 k t ht)
        have hSr : StrOk wr := hS.below hbw
        have htl : t.length ≤ 1048576 := by
          have := HP.out t (List.mem_of_getElem? ht)
          rw [HJ.out] at this; omega
        have CA := Lib.hid (atoi_any t htl wr hSr.err)
        have i1 : (0 : Int) ≤ (k : Int) := by omega
        have i2 : (k : Int) < ((F.length : Nat) : Int) := by omega
        have i3 : (k : Int) < (count : Int) := by omega
        have HBt := Lib.hid (HB.out k t (by rw [← HFF.out]; exact ht))
        have HT := Lib.hid ht
        have HO := Lib.hid ho
        have HX := Lib.hid hx
        have HFR := Lib.hid hFR
        obtain ⟨ST, hST⟩ : ∃ ST, bas t = ST := ⟨_, rfl⟩
        rw [hST] at e0 CA
        have HST := Lib.hid hST
        clear ht ho hx hFR hST
        go_wp2_with fail
        (with_reducible refine CA.out.mono ?_)
        rintro e w4 ⟨hb4, hv⟩
        have hbw4 := hbw.trans (hb4.mono hbw.size)
        have h4s : n0 ≤ wr.heap.size := Nat.le_trans h3s hbr.size
        have hbr4 := hbr.trans (hb4.mono h4s)
        have ho4 := own_keep HO.out hb4
        have S4 := hSr.below hb4
        rcases hv with ⟨v, hv, rfl⟩ | ⟨hv, v, te, pe, rfl⟩
        · have hvb := Lib.atoiAll_bounds hv
          by_cases hneg : v < 0
          · have hno := HBt.out (fun n hn e => by
              rw [e, atoi_dec hn] at hv
              have := Lib.NumEnd.ok.inj hv
              omega)
            have HN := Lib.hid hno
            clear hno hv CA ho4
            go_wp2_with fail
            go_ret2
            exact ⟨hbw4, .inr ⟨HN.out, rfl⟩⟩
          · obtain ⟨n, rfl⟩ := Int.eq_ofNat_of_zero_le (by omega : 0 ≤ v)
            have CI := Lib.hid (itoaN_any n (by omega) w4 S4.tab)
            obtain ⟨SN, hSN⟩ : ∃ SN, bas (dec n) = SN := ⟨_, rfl⟩
            rw [hSN] at CI
            have HSN := Lib.hid hSN
            clear CA hSN
            by_cases he : dec n = t
            · have hEq : (SN.toList == ST.toList) = true := by rw [← HSN.out, ← HST.out, he]; simp
              have hEq2 : SN = ST := by rw [← HSN.out, ← HST.out, he]
              have HV := Lib.hid hv
              clear hv
              go_wp2_with fail
              (with_reducible refine CI.out.mono ?_)
              rintro e w5 ⟨rfl, hb5⟩
              have ho5 := own_keep ho4 hb5
              have hbr5 := hbr4.trans (hb5.mono (Nat.le_trans h3s hbr4.size))
              obtain ⟨v0, y0⟩ := own_some ho5 (j := k) (by omega)
              have f0 := ho5.frozenAt k
              have hgl := (own_lt ho5).2
              have hx5 := ho5.1
              clear CI hb5 ho4
              go_wp2_with fail
              have R5 := (ho5.stored k (.int .i64 n)).1
              have B5 := hbr5.setCell (p := ⟨n0, k, none⟩) (Nat.le_refl _) (.int .i64 n)
              go_roundw
              case rel => exact ⟨k + 1, R ++ [n], by omega, by go_num, B5, by simp [hRl], by rw [List.take_succ, HT.out, HFR.out]; simp [he], fun r hr => by
                  rcases List.mem_append.1 hr with h | h
                  · exact hRs r h
                  · obtain rfl : r = n := by simpa using h
                    omega, _, R5, by rw [take_set1 _ _ _ (by omega), HX.out]; simp [nints]⟩
              case measure => simp [intOf]; omega
            · have hEq : (SN.toList == ST.toList) = false := by rw [← HSN.out, ← HST.out, ByteArray.toList_eq, ByteArray.toList_eq, bas_data, bas_data]; simpa using he
              have hEq2 : ¬ SN = ST := by rw [← HSN.out, ← HST.out]; exact fun e => he (bas_inj e)
              have hno := HBt.out (fun m hm e => by
                rw [e, atoi_dec hm] at hv
                have := Lib.NumEnd.ok.inj hv
                have : m = n := by omega
                exact he (by rw [e, this]))
              have HN := Lib.hid hno
              clear hno hv
              go_wp2_with fail
              (with_reducible refine CI.out.mono ?_)
              rintro e w5 ⟨rfl, hb5⟩
              go_wp2_with fail
              go_ret2
              exact ⟨hbw4.trans (hb5.mono hbw4.size), .inr ⟨HN.out, rfl⟩⟩
        · have hno := HBt.out (fun n hn e => hv n (by rw [e]; exact atoi_dec hn))
          have HN := Lib.hid hno
          clear hno hv CA ho4
          go_wp2_with fail
          go_ret2
          exact ⟨hbw4, .inr ⟨HN.out, rfl⟩⟩
      · obtain rfl : k = count := by omega
        have hx5 := ho.1
        rw [List.take_of_length_le (by omega)] at hFR hx
        subst hx
        have hnums : Nums b k l R := ⟨hRl, by rw [← HJ.out, hFR], hRs⟩
        have HN := Lib.hid hnums
        have HO := Lib.hid ho
        have i2 : ¬ (k : Int) < ((F.length : Nat) : Int) := by omega
        clear hnums hFR ho
        go_wp2_with fail
        go_ret2
        exact ⟨hbw, .inl ⟨R, n0, HN.out, rfl, own_base HO.out hle⟩⟩
  · have z0 : ((F.length : Nat) : Int) ≠ (count : Int) := by omega
    have hno : ∀ R, ¬ Nums b count l R := fun R h => hlen (by rw [HF.out R h, List.length_map]; exact h.1)
    have HN := Lib.hid hno
    clear hno
    go_enter Tryz.func13, Tryz.ntmps13
    go_wp2_with fail
    (with_reducible refine C1.out.mono ?_)
    rintro e w2 ⟨c, rfl, hoF, hb2⟩
    have hcap := own_cap hoF
    clear C1 hoF
    go_wp2_with fail
    go_ret2
    exact ⟨hb2, .inr ⟨HN.out, rfl⟩⟩
end Go.Proofs.YtfkifcjjkaenhaaGreatDoor
