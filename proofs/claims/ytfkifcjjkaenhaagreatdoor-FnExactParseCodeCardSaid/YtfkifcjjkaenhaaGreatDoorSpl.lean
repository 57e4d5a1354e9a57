/- The model's splitting of a text. -/
import Derived.Test.YtfkifcjjkaenhaaGreatDoorSp
set_option linter.all false
namespace Go.Proofs.YtfkifcjjkaenhaaGreatDoor
open Go.RowKit

/-- The pieces so far, and where the next one begins. -/
def spS (b : UInt8) (l : List UInt8) : Nat → List (List UInt8) × Nat
  | 0 => ([], 0)
  | k + 1 => if l[k]? = some b then ((spS b l k).1 ++ [(l.take k).drop (spS b l k).2], k + 1) else spS b l k
theorem spS_hit {b : UInt8} {l : List UInt8} {k : Nat} (h : l[k]? = some b) : spS b l (k + 1) = ((spS b l k).1 ++ [(l.take k).drop (spS b l k).2], k + 1) := by rw [spS, if_pos h]
theorem spS_miss {b : UInt8} {l : List UInt8} {k : Nat} (h : ¬ l[k]? = some b) : spS b l (k + 1) = spS b l k := by rw [spS, if_neg h]
theorem spS_le (b : UInt8) (l : List UInt8) : ∀ k, (spS b l k).2 ≤ k ∧ (spS b l k).1.length ≤ k
  | 0 => by simp [spS]
  | k + 1 => by
    have := spS_le b l k
    unfold spS
    split
    · simp; omega
    · omega
theorem spS_ok (b : UInt8) (l : List UInt8) : ∀ k, k ≤ l.length → spl b l = (spS b l k).1 ++ onto ((l.take k).drop (spS b l k).2) (spl b (l.drop k))
  | 0, _ => by
    simp only [spS, List.take_zero, List.drop_nil, List.drop_zero, List.nil_append]
    cases h : spl b l with
    | nil => exact absurd h (spl_ne _ _)
    | cons x t => simp [onto]
  | k + 1, hk => by
    have ih := spS_ok b l k (by omega)
    have hle := (spS_le b l k).1
    have hd : l.drop k = l[k] :: l.drop (k + 1) := List.drop_eq_getElem_cons (by omega)
    have ht : l.take (k + 1) = l.take k ++ [l[k]] := List.take_succ_eq_append_getElem (by omega)
    have hg : l[k]? = some l[k] := List.getElem?_eq_getElem (by omega)
    rw [ih, hd]
    by_cases h : l[k] = b
    · rw [spS_hit (by rw [hg, h]), spl, if_pos h]
      simp only [onto]
      have e : (l.take (k + 1)).drop (k + 1) = [] := by simp
      rw [e, List.append_assoc]
      cases h2 : spl b (l.drop (k + 1)) with
      | nil => exact absurd h2 (spl_ne _ _)
      | cons x t => simp [onto]
    · rw [spS_miss (by rw [hg]; intro e; exact h (Option.some.inj e)), spl, if_neg h, ht, List.drop_append_of_le_length (by simp; omega)]
      cases h2 : spl b (l.drop (k + 1)) with
      | nil => exact absurd h2 (spl_ne _ _)
      | cons x t => simp [onto]
theorem spS_end (b : UInt8) (l : List UInt8) : spl b l = (spS b l l.length).1 ++ [l.drop (spS b l l.length).2] := by
  have := spS_ok b l l.length (Nat.le_refl _)
  rw [this]; simp [spl, onto]
theorem extract_bas (s : ByteArray) (i j : Nat) (h : j ≤ s.size) : s.extract i j = bas ((s.data.toList.take j).drop i) := by
  apply ByteArray.ext
  rw [ByteArray.data_extract]
  unfold bas
  apply Array.ext'
  simp [List.drop_take]
/-- Pieces, as texts of the caller's own. -/
def RetSp (w : World) (R : List (List UInt8)) (e : Ending) (w' : World) : Prop := ∃ A c, e = .returned (.slice A R.length c) ∧ w'.ownsRow w.heap.size 9 1 (.slice A R.length c) R.length (txs R) ∧ Below w.heap.size w w'
set_option maxRecDepth 100000 in
set_option maxHeartbeats 4000000 in
theorem split_any (s : ByteArray) (b : UInt8) (hs : s.size ≤ 1000000) (w : World) :
    Calls Tryz.prog 19 #[.string s, .int .u8 b.toNat] w (RetSp w (spl b s.data.toList)) := by
  have hlen : s.data.toList.length = s.size := rfl
  have hend := spS_end b s.data.toList
  rw [hlen] at hend
  have HE := Lib.hid hend
  clear hend
  obtain ⟨i0, hi, hz0, hz1, hz2⟩ := info_parts infoStr
  go_enter Tryz.func19, Tryz.ntmps19
  go_wp2_with fail
  go_loopw [5, 6, 7] (fun o f i wr => ∃ k : Nat, k ≤ s.size ∧ i = .int .i64 k ∧ f = .int .i64 ((spS b s.data.toList k).2 : Nat) ∧ wr.ownsRow w.heap.size 9 1 o (spS b s.data.toList k).1.length (txs (spS b s.data.toList k).1) ∧ Below w.heap.size w wr) (fun _ _ i _ => s.size - (intOf i).toNat)
  case atStart => exact ⟨0, Nat.zero_le _, rfl, rfl, World.ownsRow_nil _ _ _ _, Below.refl _ _⟩
  case round =>
    obtain ⟨k, hk, rfl, rfl, ho, hbr⟩ := hrel
    obtain ⟨Ao, co, rfl⟩ := own_val ho
    have hzr := hbr.size
    have hle := spS_le b s.data.toList k
    have HO := Lib.hid ho
    by_cases hlt : k < s.size
    · have i1 : (0 : Int) ≤ (k : Int) := by omega
      have i2 : (k : Int) < (s.size : Int) := by omega
      have hget := getk s k hlt
      by_cases hc : (s[k]'hlt) = b
      · have e1 : ((s[k]'hlt).toNat : Int) = (b.toNat : Int) := by rw [hc]
        have HS := Lib.hid (spS_hit (b := b) (l := s.data.toList) (k := k) (by rw [hget, hc]))
        obtain ⟨R, hR⟩ : ∃ R, R = (spS b s.data.toList k).1 := ⟨_, rfl⟩
        obtain ⟨f, hf⟩ : ∃ f, f = (spS b s.data.toList k).2 := ⟨_, rfl⟩
        rw [← hR, ← hf] at HS
        rw [← hR] at HO ho
        rw [← hf, ← hR] at hle
        rw [← hf, ← hR]
        obtain ⟨hle1, hle2⟩ := hle
        have i3 : (0 : Int) ≤ (f : Int) ∧ (f : Int) ≤ (k : Int) := by omega
        have i4 : (0 : Int) ≤ (k : Int) ∧ (k : Int) ≤ (s.size : Int) := by omega
        have hXb := extract_bas s f k hk
        have HX := Lib.hid hXb
        clear hR hf hXb ho hc
        go_wp2_with (at_builtin; refine wpList_append_own _ rfl _ _ 30 rfl w.heap.size 9 i0 (.string ⟨#[]⟩) 1 16 Tryz.underlying30 hi hz0 hz1 hz2 rfl (by decide) _ _ _ rfl (HO.out.alloc _) ⟨wr.heap.size, 0, none⟩ 1 1 [.string (s.extract f k)] rfl rfl ?c1 ?c2 ?c3 ?c4 ?c5 ?_)
        case c1 =>
          intro j u hj
          match j, hj with
          | 0, hj => simp at hj; subst hj; simp [Addr.add]
        case c2 => intro u hu; simp at hu; subst hu; rfl
        case c3 => unfold maxLen; omega
        case c4 => omega
        case c5 => simp <;> omega
        intro v' w4 hown4 hgrow _
        have hB4 : Below w.heap.size w w4 := (hbr.alloc hbr.size _).grown hgrow (by simp; omega) (fun k hk => by have := (HO.out.lt k hk).1; omega)
        have HO4 : Hid (w4.ownsRow w.heap.size 9 1 v' (R.length + 1) (txs (R ++ [(s.data.toList.take k).drop f]))) := by
          show w4.ownsRow _ _ _ _ _ _
          rw [txs_app, show ∀ x, txs [x] = [.string (bas x)] from fun _ => rfl, ← HX.out]
          exact hown4
        clear hown4 hgrow HO
        go_wp2_with fail
        go_roundw
        case rel => exact ⟨k + 1, by omega, by go_num, by rw [HS.out]; go_num, by rw [HS.out, List.length_append]; exact HO4.out, hB4⟩
        case measure => simp [intOf]; omega
      · have e1 : ¬ ((s[k]'hlt).toNat : Int) = (b.toNat : Int) := by intro h; exact hc (UInt8.toNat_inj.1 (by omega))
        have HS := Lib.hid (spS_miss (b := b) (l := s.data.toList) (k := k) (by rw [hget]; intro h; exact hc (Option.some.inj h)))
        obtain ⟨R, hR⟩ : ∃ R, R = (spS b s.data.toList k).1 := ⟨_, rfl⟩
        obtain ⟨f, hf⟩ : ∃ f, f = (spS b s.data.toList k).2 := ⟨_, rfl⟩
        rw [← hR] at HO
        rw [← hf, ← hR]
        clear ho
        go_wp2_with fail
        go_roundw
        case rel => exact ⟨k + 1, by omega, by go_num, by rw [HS.out, ← hf], by rw [HS.out, ← hR]; exact HO.out, hbr⟩
        case measure => simp [intOf]; omega
    · obtain rfl : k = s.size := by omega
      obtain ⟨R, hR⟩ : ∃ R, R = (spS b s.data.toList s.size).1 := ⟨_, rfl⟩
      obtain ⟨f, hf⟩ : ∃ f, f = (spS b s.data.toList s.size).2 := ⟨_, rfl⟩
      have HE' := HE.out
      rw [← hR, ← hf] at HE'
      rw [← hR] at HO ho
      rw [← hf, ← hR] at hle
      rw [← hf, ← hR]
      obtain ⟨hle1, hle2⟩ := hle
      have i3 : (0 : Int) ≤ (f : Int) ∧ (f : Int) ≤ (s.size : Int) := by omega
      have hXb := extract_bas s f s.size (Nat.le_refl _)
      rw [List.take_of_length_le (by omega)] at hXb
      have HX := Lib.hid hXb
      have HE2 := Lib.hid HE'
      clear hR hf hXb ho HE HE'
      go_wp2_with (at_builtin; refine wpList_append_own _ rfl _ _ 30 rfl w.heap.size 9 i0 (.string ⟨#[]⟩) 1 16 Tryz.underlying30 hi hz0 hz1 hz2 rfl (by decide) _ _ _ rfl (HO.out.alloc _) ⟨wr.heap.size, 0, none⟩ 1 1 [.string (s.extract f s.size)] rfl rfl ?c1 ?c2 ?c3 ?c4 ?c5 ?_)
      case c1 =>
        intro j u hj
        match j, hj with
        | 0, hj => simp at hj; subst hj; simp [Addr.add]
      case c2 => intro u hu; simp at hu; subst hu; rfl
      case c3 => unfold maxLen; omega
      case c4 => omega
      case c5 => simp <;> omega
      intro v' w4 hown4 hgrow _
      have hB4 : Below w.heap.size w w4 := (hbr.alloc hbr.size _).grown hgrow (by simp; omega) (fun k hk => by have := (HO.out.lt k hk).1; omega)
      obtain ⟨A4, c4, rfl⟩ := own_val hown4
      have HO4 : Hid (w4.ownsRow w.heap.size 9 1 (.slice A4 (R.length + 1) c4) (R.length + 1) (txs (R ++ [s.data.toList.drop f]))) := by
        show w4.ownsRow _ _ _ _ _ _
        rw [txs_app, show ∀ x, txs [x] = [.string (bas x)] from fun _ => rfl, ← HX.out]
        exact hown4
      clear hown4 hgrow HO
      go_wp2_with fail
      go_ret
      refine ⟨A4, c4, ?_, ?_, hB4⟩
      · rw [HE2.out, List.length_append]; rfl
      · rw [HE2.out, List.length_append]; exact HO4.out
end Go.Proofs.YtfkifcjjkaenhaaGreatDoor
