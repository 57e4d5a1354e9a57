/- The model's splitting, at texts as long as a law's. -/
import Derived.Test.YtbkfenhiaedlgaaDoorSpl
import Derived.Test.YtbkfenhiaedlgaaDoorPcP
set_option linter.all false
namespace Go.Proofs.YtbkfenhiaedlgaaDoor
open Go.RowKit

set_option maxRecDepth 100000 in
set_option maxHeartbeats 4000000 in
theorem split_anyW (s : ByteArray) (b : UInt8) (hs : s.size ≤ 2000000) (w : World) :
    Calls Tryd.prog 106 #[.string s, .int .u8 b.toNat] w (RetSp w (spl b s.data.toList)) := by
  have hlen : s.data.toList.length = s.size := rfl
  have hend := spS_end b s.data.toList
  rw [hlen] at hend
  have HE := Lib.hid hend
  clear hend
  obtain ⟨i0, hi, hz0, hz1, hz2⟩ := info_parts infoStr
  go_enter Tryd.func106, Tryd.ntmps106
  go_wp2_with fail
  go_loopw [5, 6, 7] (fun o f i wr => ∃ k : Nat, k ≤ s.size ∧ i = .int .i64 k ∧ f = .int .i64 ((spS b s.data.toList k).2 : Nat) ∧ wr.ownsRow w.heap.size 9 1 o (spS b s.data.toList k).1.length (txs (spS b s.data.toList k).1) ∧ Below w.heap.size w wr) (fun _ _ i _ => s.size - (intOf i).toNat)
  case atStart => exact ⟨0, Nat.zero_le _, rfl, rfl, World.ownsRow_nil _ _ _ _, Below.refl _ _⟩
  case round =>
    obtain ⟨k, hk, rfl, rfl, ho, hbr⟩ := hrel
    obtain ⟨Ao, co, rfl⟩ := own_val ho
    have hzr := hbr.size
    have hle := spS_le b s.data.toList k
    have HO := Lib.hid ho
    by_cases hlt : k < s.size
    · have i1 : (0 : Int) ≤ (k : Int) := by omega
      have i2 : (k : Int) < (s.size : Int) := by omega
      have hget := getk s k hlt
      by_cases hc : (s[k]'hlt) = b
      · have e1 : ((s[k]'hlt).toNat : Int) = (b.toNat : Int) := by rw [hc]
        have HS := Lib.hid (spS_hit (b := b) (l := s.data.toList) (k := k) (by rw [hget, hc]))
        obtain ⟨R, hR⟩ : ∃ R, R = (spS b s.data.toList k).1 := ⟨_, rfl⟩
        obtain ⟨f, hf⟩ : ∃ f, f = (spS b s.data.toList k).2 := ⟨_, rfl⟩
        rw [← hR, ← hf] at HS
        rw [← hR] at HO ho
        rw [← hf, ← hR] at hle
        rw [← hf, ← hR]
        obtain ⟨hle1, hle2⟩ := hle
        have i3 : (0 : Int) ≤ (f : Int) ∧ (f : Int) ≤ (k : Int) := by omega
        have i4 : (0 : Int) ≤ (k : Int) ∧ (k : Int) ≤ (s.size : Int) := by omega
        have hXb := extract_bas s f k hk
        have HX := Lib.hid hXb
        clear hR hf hXb ho hc
        go_wp2_with (at_builtin; refine wpList_append_own _ rfl _ _ 83 rfl w.heap.size 9 i0 (.string ⟨#[]⟩) 1 16 Tryd.underlying83 hi hz0 hz1 hz2 rfl (by decide) _ _ _ rfl (HO.out.alloc _) ⟨wr.heap.size, 0, none⟩ 1 1 [.string (s.extract f k)] rfl rfl ?c1 ?c2 ?c3 ?c4 ?c5 ?_)
        case c1 =>
          intro j u hj
          match j, hj with
          | 0, hj => simp at hj; subst hj; simp [Addr.add]
        case c2 => intro u hu; simp at hu; subst hu; rfl
        case c3 => unfold maxLen; omega
        case c4 => omega
        case c5 => simp <;> omega
        intro v' w4 hown4 hgrow _
        have hB4 : Below w.heap.size w w4 := (hbr.alloc hbr.size _).grown hgrow (by simp; omega) (fun k hk => by have := (HO.out.lt k hk).1; omega)
        have HO4 : Hid (w4.ownsRow w.heap.size 9 1 v' (R.length + 1) (txs (R ++ [(s.data.toList.take k).drop f]))) := by
          show w4.ownsRow _ _ _ _ _ _
          rw [txs_app, show ∀ x, txs [x] = [.string (bas x)] from fun _ => rfl, ← HX.out]
          exact hown4
        clear hown4 hgrow HO
        go_wp2_with fail
        go_roundw
        case rel => exact ⟨k + 1, by omega, by go_num, by rw [HS.out]; go_num, by rw [HS.out, List.length_append]; exact HO4.out, hB4⟩
        case measure => simp [intOf]; omega
      · have e1 : ¬ ((s[k]'hlt).toNat : Int) = (b.toNat : Int) := by intro h; exact hc (UInt8.toNat_inj.1 (by omega))
        have HS := Lib.hid (spS_miss (b := b) (l := s.data.toList) (k := k) (by rw [hget]; intro h; exact hc (Option.some.inj h)))
        obtain ⟨R, hR⟩ : ∃ R, R = (spS b s.data.toList k).1 := ⟨_, rfl⟩
        obtain ⟨f, hf⟩ : ∃ f, f = (spS b s.data.toList k).2 := ⟨_, rfl⟩
        rw [← hR] at HO
        rw [← hf, ← hR]
        clear ho
        go_wp2_with fail
        go_roundw
        case rel => exact ⟨k + 1, by omega, by go_num, by rw [HS.out, ← hf], by rw [HS.out, ← hR]; exact HO.out, hbr⟩
        case measure => simp [intOf]; omega
    · obtain rfl : k = s.size := by omega
      obtain ⟨R, hR⟩ : ∃ R, R = (spS b s.data.toList s.size).1 := ⟨_, rfl⟩
      obtain ⟨f, hf⟩ : ∃ f, f = (spS b s.data.toList s.size).2 := ⟨_, rfl⟩
      have HE' := HE.out
      rw [← hR, ← hf] at HE'
      rw [← hR] at HO ho
      rw [← hf, ← hR] at hle
      rw [← hf, ← hR]
      obtain ⟨hle1, hle2⟩ := hle
      have i3 : (0 : Int) ≤ (f : Int) ∧ (f : Int) ≤ (s.size : Int) := by omega
      have hXb := extract_bas s f s.size (Nat.le_refl _)
      rw [List.take_of_length_le (by omega)] at hXb
      have HX := Lib.hid hXb
      have HE2 := Lib.hid HE'
      clear hR hf hXb ho HE HE'
      go_wp2_with (at_builtin; refine wpList_append_own _ rfl _ _ 83 rfl w.heap.size 9 i0 (.string ⟨#[]⟩) 1 16 Tryd.underlying83 hi hz0 hz1 hz2 rfl (by decide) _ _ _ rfl (HO.out.alloc _) ⟨wr.heap.size, 0, none⟩ 1 1 [.string (s.extract f s.size)] rfl rfl ?c1 ?c2 ?c3 ?c4 ?c5 ?_)
      case c1 =>
        intro j u hj
        match j, hj with
        | 0, hj => simp at hj; subst hj; simp [Addr.add]
      case c2 => intro u hu; simp at hu; subst hu; rfl
      case c3 => unfold maxLen; omega
      case c4 => omega
      case c5 => simp <;> omega
      intro v' w4 hown4 hgrow _
      have hB4 : Below w.heap.size w w4 := (hbr.alloc hbr.size _).grown hgrow (by simp; omega) (fun k hk => by have := (HO.out.lt k hk).1; omega)
      obtain ⟨A4, c4, rfl⟩ := own_val hown4
      have HO4 : Hid (w4.ownsRow w.heap.size 9 1 (.slice A4 (R.length + 1) c4) (R.length + 1) (txs (R ++ [s.data.toList.drop f]))) := by
        show w4.ownsRow _ _ _ _ _ _
        rw [txs_app, show ∀ x, txs [x] = [.string (bas x)] from fun _ => rfl, ← HX.out]
        exact hown4
      clear hown4 hgrow HO
      go_wp2_with fail
      go_ret
      refine ⟨A4, c4, ?_, ?_, hB4⟩
      · rw [HE2.out, List.length_append]; rfl
      · rw [HE2.out, List.length_append]; exact HO4.out
theorem bas_listW (l : List UInt8) : (bas l).data.toList = l := by simp [bas]
theorem split_basW (l : List UInt8) (b : UInt8) (k : Int) (hk : k = b.toNat) (hs : l.length ≤ 2000000) (w : World) : Calls Tryd.prog 106 #[.string (bas l), .int .u8 k] w (RetSp w (spl b l)) := by
  have h := split_anyW (bas l) b (by have := bas_size l; omega) w
  rw [bas_listW, ← hk] at h
  exact h
end Go.Proofs.YtbkfenhiaedlgaaDoor
