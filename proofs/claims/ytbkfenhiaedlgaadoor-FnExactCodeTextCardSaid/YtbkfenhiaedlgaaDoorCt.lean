/- CutText: both sides. -/
import Derived.Test.YtbkfenhiaedlgaaDoorNt
set_option linter.all false
namespace Go.Proofs.YtbkfenhiaedlgaaDoor
open Go.RowKit

theorem good_sm {W H : Int} {L : List Sq} (h : Good W H L) : ∀ s ∈ L, SmS s := fun s hs => by
  obtain ⟨hW, hH, _, hok, _⟩ := h
  obtain ⟨j, hj⟩ := List.mem_iff_getElem?.1 hs
  have := hok j s hj
  simp only [OkS, Within, SmS] at *
  omega
/-- A square's numbers. -/
def sqt (s : Sq) : List UInt8 := dec s.x.toNat ++ 44 :: (dec s.y.toNat ++ 44 :: dec s.d.toNat)
theorem txQ_sqt (s : Sq) : txQ s = 59 :: sqt s := rfl
theorem join_ct (a : List UInt8) (L : List Sq) : Lib.join (a :: L.map sqt) [59] = a ++ (L.map txQ).flatten := by
  rw [Lib.join_cons]; unfold Lib.joinTail; rw [List.map_map]; rfl
theorem join2 (a b m : List UInt8) : Lib.join [a, b] m = a ++ m ++ b := by rw [Lib.join_cons]; simp [Lib.joinTail]
theorem join3 (a b c m : List UInt8) : Lib.join [a, b, c] m = a ++ m ++ b ++ m ++ c := by rw [Lib.join_cons]; simp [Lib.joinTail]
/-- What CutText returns. -/
noncomputable def ctV (W H : Int) (L : List Sq) : List UInt8 := if dc (Good W H L) then txC W.toNat H.toNat L else []
theorem ctV_yes {W H : Int} {L : List Sq} (h : Good W H L) : ctV W H L = txC W.toNat H.toNat L := by unfold ctV; rw [dc_true h]; rfl
theorem ctV_no {W H : Int} {L : List Sq} (h : ¬ Good W H L) : ctV W H L = [] := by unfold ctV; rw [dc_false h]; rfl
theorem m120 : (⟨#[120]⟩ : ByteArray).data.toList = [120] := rfl
theorem m44 : (⟨#[44]⟩ : ByteArray).data.toList = [44] := rfl
theorem m59 : (⟨#[59]⟩ : ByteArray).data.toList = [59] := rfl
def RetTx (w : World) (l : List UInt8) (ok : Bool) (e : Ending) (w' : World) : Prop := e = .returned (.tuple #[.string (bas l), .bool ok]) ∧ Below w.heap.size w w'
theorem own_one (w : World) (v : Value) (t : TypeId) : (w.alloc (.cells #[v] t)).ownsRow w.heap.size t 1 (.slice (some ⟨w.heap.size, 0, none⟩) 1 1) 1 [v] :=
  World.ownsRow_lit w #[v] 1 (Nat.le_refl _) (by unfold maxLen; omega) rfl
theorem ints_two (w : World) (x y : Int) (t : TypeId) : IntsAt (w.alloc (.cells #[.int .i64 x, .int .i64 y] t)) (w.alloc (.cells #[.int .i64 x, .int .i64 y] t)).heap.size (some ⟨w.heap.size, 0, none⟩) [x, y] := by
  intro i u hu
  match i, hu with
  | 0, hu => simp at hu; subst hu; exact ⟨_, _, rfl, by simp, by simp⟩
  | 1, hu => simp at hu; subst hu; exact ⟨_, _, rfl, by simp, by simp⟩
theorem ints_three (w : World) (b : Nat) (hb : w.heap.size = b) (x y z : Int) (t : TypeId) : IntsAt (w.alloc (.cells #[.int .i64 x, .int .i64 y, .int .i64 z] t)) (w.alloc (.cells #[.int .i64 x, .int .i64 y, .int .i64 z] t)).heap.size (some ⟨b, 0, none⟩) [x, y, z] := by
  subst hb
  intro i u hu
  match i, hu with
  | 0, hu => simp at hu; subst hu; exact ⟨_, _, rfl, by simp, by simp⟩
  | 1, hu => simp at hu; subst hu; exact ⟨_, _, rfl, by simp, by simp⟩
  | 2, hu => simp at hu; subst hu; exact ⟨_, _, rfl, by simp, by simp⟩
/-- Texts in memory. -/
def txs (R : List (List UInt8)) : List Value := R.map fun l => .string (bas l)
theorem txs_app (R S : List (List UInt8)) : txs (R ++ S) = txs R ++ txs S := by simp [txs]
/-- strings.Join of a row that the call owns. -/
theorem join_own (mark : ByteArray) (A : Option Addr) (n c base : Nat) (R : List (List UInt8)) (w : World) (m : Nat) (hn : 1 ≤ n) (hl : R.length = n) (hm : ∀ l ∈ R, l.length ≤ m) (hs : mark.size * n + m * n ≤ 1000000) (ho : w.ownsRow base 9 1 (.slice A n c) n (txs R)) (hn2 : n ≤ 1000000) :
    Calls Tryd.prog 54 #[.slice A n c, .string mark] w fun e w' => e = .returned (.string (bas (Lib.join R mark.data.toList))) ∧ Below w.heap.size w w' := by
  obtain ⟨g, rfl⟩ := own_form ho hn
  have hcap := own_cap ho
  have hx := ho.1
  have hlt := own_lt ho
  obtain ⟨X, hX⟩ : ∃ X : List ByteArray, X = R.map bas := ⟨_, rfl⟩
  have hXl : X.length = n := by rw [hX, List.length_map, hl]
  have hcells : ∀ (j : Nat) x, X[j]? = some x → w.cell? ⟨g, 0 + j, none⟩ = some (.string x) := fun j x hj => by
    have hjl : j < n := by rw [← hXl]; exact (List.getElem?_eq_some_iff.1 hj).1
    rw [Nat.zero_add, ho.cellAt j (by omega)]
    rw [hX, List.getElem?_map] at hj
    unfold txs
    rw [List.getElem?_map]
    cases hq : R[j]? with
    | none => rw [hq] at hj; cases hj
    | some r => rw [hq] at hj; simp at hj; rw [← hj]; rfl
  have e1 : X.map (·.data.toList) = R := by rw [hX, List.map_map]; exact (List.map_congr_left (fun l _ => by simp [bas])).trans (List.map_id R)
  have hjl : (Lib.join (X.map (·.data.toList)) mark.data.toList).length ≤ 140737488355328 := by
    rw [e1]
    have h1 := join_le R mark.data.toList m hm
    rw [hl] at h1
    have h2 : mark.data.toList.length = mark.size := by rw [Array.length_toList]; rfl
    rw [h2] at h1
    omega
  have CJ := Tryd.strings_Join g 0 c X mark w hcells hlt.2 (by omega) (by omega) hjl
  rw [hXl, e1] at CJ
  exact CJ
theorem fld_len {W H : Int} {L : List Sq} (hG : Good W H L) : ∀ l ∈ (dec W.toNat ++ 120 :: dec H.toNat) :: L.map sqt, l.length ≤ 20 := by
  have hs := good_sm hG
  obtain ⟨hW, hH, _⟩ := hG
  intro l hl
  rcases List.mem_cons.1 hl with rfl | hl
  · have a := dec_6 (n := W.toNat) (by omega)
    have b := dec_6 (n := H.toNat) (by omega)
    simp; omega
  · obtain ⟨s, hsm, rfl⟩ := List.mem_map.1 hl
    have := txQ_len (hs s hsm)
    rw [txQ_sqt] at this; simp at this; omega
set_option maxRecDepth 100000 in
set_option maxHeartbeats 8000000 in
theorem implCt_any (W H : Int) (A : Option Addr) (n c : Nat) (L : List Sq) (w : World) (hl : L.length = n) (hc : n ≤ c) (hL : SqsAt w w.heap.size A L) (hwf : ∀ s ∈ L, wfS s) (hT : TabOk w) :
    Calls Tryd.prog 14 #[.agg #[.int .i64 W, .int .i64 H, .slice A n c]] w (RetTx w (ctV W H L) (dc (Good W H L))) := by
  have B0 : Below w.heap.size w (w.alloc (.cells #[.int .i64 W, .int .i64 H, .slice A n c] 30)) := (Below.refl _ _).alloc (Nat.le_refl _) _
  have K0 := Bx.start w W H A n c 30
  have C := isCut_good W H A n c L _ hl hc ((hL.below B0).mono B0.size) hwf
  by_cases hG : Good W H L
  · have C0 := Lib.hid (callB_yes C hG)
    rw [ctV_yes hG, dc_true hG]
    have hs := good_sm hG
    have hfl := fld_len hG
    have hW := hG.1
    have hH := hG.2.1
    have hn30 : n ≤ 30 := by have := hG.2.2.1; omega
    obtain ⟨i0, hi, hz0, hz1, hz2⟩ := info_parts infoStr
    obtain ⟨F, hF⟩ : ∃ F : Nat → List (List UInt8), F = fun k => (dec W.toNat ++ 120 :: dec H.toNat) :: (L.take k).map sqt := ⟨_, rfl⟩
    have hF0 : F 0 = [Lib.join [dec W.toNat, dec H.toNat] [120]] := by rw [hF, join2]; simp
    have hFs : ∀ k s, L[k]? = some s → F (k + 1) = F k ++ [Lib.join [dec s.x.toNat, dec s.y.toNat, dec s.d.toNat] [44]] := fun k s h => by
      obtain ⟨hk, e⟩ := List.getElem?_eq_some_iff.1 h
      rw [hF, join3]; simp only [List.take_succ_eq_append_getElem hk, e]; simp [sqt]
    have hFn : F n = (dec W.toNat ++ 120 :: dec H.toNat) :: L.map sqt := by rw [hF]; simp only; rw [List.take_of_length_le (by omega)]
    have hFl : ∀ k, k ≤ n → (F k).length = k + 1 := fun k hk => by rw [hF]; simp; omega
    have hfin : Lib.join (F n) [59] = txC W.toNat H.toNat L := by rw [hFn, join_ct]; rfl
    have hfm : ∀ l ∈ F n, l.length ≤ 20 := by rw [hFn]; exact hfl
    have HF0 := Lib.hid hF0
    have HFS := Lib.hid hFs
    have HFL := Lib.hid hFl
    have HFM := Lib.hid hfm
    rw [← hfin]
    clear hF hF0 hFs hFn hFl hfin hfm hfl C hG
    go_enter Tryd.func14, Tryd.ntmps14
    go_wp2_with fail
    (with_reducible refine C0.out.mono ?_)
    rintro e w1 ⟨rfl, hb1⟩
    have K1 := K0.next hb1
    have B1 := B0.trans (hb1.mono B0.size)
    obtain ⟨kl, k0, k1, k2⟩ := id K1
    have hba : ∀ o, Below w1.heap.size w1 (w1.alloc o) := fun o => (Below.refl _ _).alloc (Nat.le_refl _) o
    have T1 := (hT.below (B1.trans ((hba (.cells #[.int .i64 W, .int .i64 H] 3)).mono B1.size)))
    have C1 := nt_any ⟨#[120]⟩ (by decide) (some ⟨w1.heap.size, 0, none⟩) 2 2 [W, H] (w1.alloc (.cells #[.int .i64 W, .int .i64 H] 3)) rfl (by omega) (by omega) (by intro r hr; simp at hr; rcases hr with rfl | rfl <;> omega) T1 (ints_two _ _ _ _)
    simp only [List.map_cons, List.map_nil, m120] at C1
    obtain ⟨S0, hS0⟩ : ∃ S0, bas (Lib.join [dec W.toNat, dec H.toNat] [120]) = S0 := ⟨_, rfl⟩
    rw [hS0] at C1
    have hF0 : txs (F 0) = [.string S0] := by rw [HF0.out, ← hS0]; rfl
    have C1 := Lib.hid C1
    clear hb1 C0 K0 B0 T1 hS0
    go_wp2_with fail
    (with_reducible refine C1.out.mono ?_)
    rintro e w2 ⟨rfl, hb2⟩
    have hb12 := (hba _).trans (hb2.mono (hba _).size)
    have K2 := K1.next hb12
    have B2 := B1.trans (hb12.mono B1.size)
    have hz := K2.lt
    clear kl k0 k1 k2 C1 hb2 hba K1 B1 hb12
    obtain ⟨kl, k0, k1, k2⟩ := id K2
    have O3 : (w2.alloc (.cells #[.string S0] 9)).ownsRow (w.heap.size + 1) 9 1 (.slice (some ⟨w2.heap.size, 0, none⟩) 1 1) (0 + 1) (txs (F 0)) := by
      rw [hF0]; exact own_base (own_one w2 (.string S0) 9) (show w.heap.size + 1 ≤ w2.heap.size by omega)
    have B3 := B2.alloc B2.size (.cells #[.string S0] 9)
    clear hF0
    go_wp2_with fail
    clear kl k0 k1 k2 K2 hz B2
    go_loopw [4, 20] (fun o i wr => ∃ k : Nat, k ≤ n ∧ i = .int .i64 k ∧ wr.ownsRow (w.heap.size + 1) 9 1 o (k + 1) (txs (F k)) ∧ Below w.heap.size w wr) (fun _ i _ => n - (intOf i).toNat)
    case atStart => exact ⟨0, Nat.zero_le _, rfl, O3, B3⟩
    case round =>
      obtain ⟨k, hk, rfl, ho, hbr⟩ := hrel
      clear O3 B3
      obtain ⟨Ao, co, rfl⟩ := own_val ho
      have hzr := hbr.size
      by_cases hlt : k < n
      · obtain ⟨s, hsk⟩ : ∃ s, L[k]? = some s := ⟨_, List.getElem?_eq_getElem (by omega)⟩
        obtain ⟨b0, off, rfl, hb0, c0, c1, c2⟩ := (hL.below hbr) k s hsk
        have hsm := hs s (List.mem_of_getElem? hsk)
        have hFk := HFS.out k s hsk
        have hb1 : Below wr.heap.size wr ((wr.alloc (.cells #[.int .i64 s.x, .int .i64 s.y, .int .i64 s.d] 85)).alloc (.cells #[.int .i64 s.x, .int .i64 s.y, .int .i64 s.d] 3)) := ((Below.refl _ _).alloc (Nat.le_refl _) _).alloc (by simp) _
        have T1 := hT.below (hbr.trans (hb1.mono hbr.size))
        have II := ints_three (wr.alloc (.cells #[.int .i64 s.x, .int .i64 s.y, .int .i64 s.d] 85)) (wr.heap.size + 1) (World.size_alloc _ _) s.x s.y s.d 3
        have C1 := nt_any ⟨#[44]⟩ (by decide) (some ⟨wr.heap.size + 1, 0, none⟩) 3 3 [s.x, s.y, s.d] _ rfl (by omega) (by omega) (by intro r hr; obtain ⟨q1, q2, q3⟩ := hsm; simp at hr; rcases hr with rfl | rfl | rfl <;> omega) T1 II
        simp only [List.map_cons, List.map_nil, m44] at C1
        obtain ⟨S, hS⟩ : ∃ S, bas (Lib.join [dec s.x.toNat, dec s.y.toNat, dec s.d.toNat] [44]) = S := ⟨_, rfl⟩
        rw [hS] at C1
        have HQ := Lib.hid (show txs (F (k + 1)) = txs (F k) ++ [.string S] by rw [hFk, txs_app, ← hS]; rfl)
        have C1 := Lib.hid C1
        have i1 : (0 : Int) ≤ (k : Int) := by omega
        have i2 : (k : Int) < (n : Int) := by omega
        have HO := Lib.hid ho
        clear hS hFk T1 II hsm hsk ho
        go_wp2_with fail
        (with_reducible refine C1.out.mono ?_)
        rintro e w3 ⟨rfl, hb3⟩
        have hb13 := hb1.trans (hb3.mono hb1.size)
        have own3 := own_keep HO.out hb13
        have hbr3 := hbr.trans (hb13.mono hbr.size)
        have hz3 := hb13.size
        clear c0 c1 c2 C1 hb3 hb1 HO hb13
        go_wp2_with (at_builtin; refine wpList_append_own _ rfl _ _ 83 rfl (w.heap.size + 1) 9 i0 (.string ⟨#[]⟩) 1 16 Tryd.underlying83 hi hz0 hz1 hz2 rfl (by decide) _ _ _ rfl (own3.alloc _) ⟨w3.heap.size, 0, none⟩ 1 1 [.string S] rfl rfl ?c1 ?c2 ?c3 ?c4 ?c5 ?_)
        case c1 =>
          intro j u hj
          match j, hj with
          | 0, hj => simp at hj; subst hj; simp [Addr.add]
        case c2 => intro u hu; simp at hu; subst hu; rfl
        case c3 => unfold maxLen; omega
        case c4 => omega
        case c5 => simp <;> omega
        intro v' w4 hown4 hgrow _
        have hB4 : Below w.heap.size w w4 := (hbr3.alloc hbr3.size _).grown hgrow (by simp; omega) (fun k hk => by have := (own3.lt k hk).1; omega)
        have HO4 : Hid (w4.ownsRow (w.heap.size + 1) 9 1 v' (k + 1 + 1) (txs (F (k + 1)))) := by
          show w4.ownsRow _ _ _ _ _ _
          rw [HQ.out]
          exact hown4
        clear own3 hown4 hgrow
        go_wp2_with fail
        go_roundw
        case rel => exact ⟨k + 1, by omega, by go_num, HO4.out, hB4⟩
        case measure => simp [intOf]; omega
      · obtain rfl : k = n := by omega
        have CJ := join_own ⟨#[59]⟩ Ao (k + 1) co (w.heap.size + 1) (F k) wr 20 (by omega) (HFL.out k (Nat.le_refl _)) HFM.out (by rw [show (⟨#[59]⟩ : ByteArray).size = 1 from rfl]; omega) ho (by omega)
        simp only [m59] at CJ
        have CJ := Lib.hid CJ
        clear ho hL hs hwf
        go_wp2_with fail
        (with_reducible refine CJ.out.mono ?_)
        rintro e w9 ⟨rfl, hb9⟩
        go_wp2_with fail
        go_ret2
        exact ⟨rfl, hbr.trans (hb9.mono hbr.size)⟩
  · have C0 := Lib.hid (callB_no C hG)
    rw [ctV_no hG, dc_false hG]
    clear C hG hL hl hwf
    go_enter Tryd.func14, Tryd.ntmps14
    go_wp2_with fail
    (with_reducible refine C0.out.mono ?_)
    rintro e w1 ⟨rfl, hb1⟩
    go_wp2_with fail
    go_ret2
    exact ⟨rfl, B0.trans (hb1.mono B0.size)⟩
end Go.Proofs.YtbkfenhiaedlgaaDoor
