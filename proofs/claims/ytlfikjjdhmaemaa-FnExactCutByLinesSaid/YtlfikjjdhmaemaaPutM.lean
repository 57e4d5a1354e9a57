/- Words of squares: the model's parts. -/
import Derived.Test.YtlfikjjdhmaemaaPutI
set_option linter.all false
namespace Go.Proofs.Ytlfikjjdhmaemaa
open Go.RowKit

set_option maxRecDepth 100000 in
set_option maxHeartbeats 4000000 in
theorem raWord_any (s : ByteArray) (w : World) (hs : s.size ≤ 1048576) : Calls Try.prog 79 #[.string s] w fun e w' => e = .returned (.bool (dc (WordG (wcs s)))) ∧ w = w' := by
  by_cases h20 : s.size ≤ 20
  · have h21 : (s.size : Int) ≤ 20 := by omega
    go_enter Try.func79, Try.ntmps79
    go_wp2_with fail
    go_loopw [3] (fun i wr => ∃ pos : Nat, i = .int .i64 pos ∧ wr = w ∧ pos ≤ s.size ∧ ∀ i, i < pos → (hi : i < s.size) → (s[i]'hi).toNat = 98 ∨ (s[i]'hi).toNat = 117) (fun i _ => s.size - (intOf i).toNat)
    case atStart => exact ⟨0, rfl, rfl, Nat.zero_le _, fun i hi => absurd hi (by omega)⟩
    case round =>
      obtain ⟨pos, rfl, rfl, hps, hD⟩ := hrel
      have HD := Lib.hid hD
      clear hD
      by_cases hp : pos < s.size
      · have k0 : (0 : Int) ≤ (pos : Int) := by omega
        have k1 : (pos : Int) < (s.size : Int) := by omega
        by_cases h98 : (s[pos]'hp).toNat = 98
        · have H := Lib.hid h98
          have i98 : ((s[pos]'hp).toNat : Int) = 98 := by rw [h98]; rfl
          clear h98
          go_wp2_with fail
          go_roundw
          case rel =>
            refine ⟨pos + 1, rfl, by first | rfl | trivial, by omega, fun i hi hi' => ?_⟩
            by_cases e : i = pos
            · subst e; exact .inl H.out
            · exact HD.out i (by omega) hi'
          case measure => simp [intOf]; omega
        · by_cases h117 : (s[pos]'hp).toNat = 117
          · have H := Lib.hid h117
            have i98 : ¬ ((s[pos]'hp).toNat : Int) = 98 := by omega
            have i117 : ((s[pos]'hp).toNat : Int) = 117 := by rw [h117]; rfl
            clear h98 h117
            go_wp2_with fail
            go_roundw
            case rel =>
              refine ⟨pos + 1, rfl, by first | rfl | trivial, by omega, fun i hi hi' => ?_⟩
              by_cases e : i = pos
              · subst e; exact .inr H.out
              · exact HD.out i (by omega) hi'
            case measure => simp [intOf]; omega
          · have hno : ¬ WordG (wcs s) := wcs_no hp h98 h117
            have i98 : ¬ ((s[pos]'hp).toNat : Int) = 98 := by omega
            have i117 : ¬ ((s[pos]'hp).toNat : Int) = 117 := by omega
            have j98 : (((s[pos]'hp).toNat : Int) != 98) = true := bne_iff_ne.2 i98
            have j117 : (((s[pos]'hp).toNat : Int) != 117) = true := bne_iff_ne.2 i117
            clear h98 h117
            go_wp2_with fail
            go_ret
            exact ⟨ret_bool (dc_false hno).symm, rfl⟩
      · obtain rfl : pos = s.size := by omega
        have hyes : WordG (wcs s) := wcs_yes h20 fun i hi => HD.out i hi hi
        go_wp2_with fail
        go_ret
        exact ⟨ret_bool (dc_true hyes).symm, rfl⟩
  · have h21 : 20 < (s.size : Int) := by omega
    have hno : ¬ WordG (wcs s) := fun h => h20 (wcs_size h)
    rw [dc_false hno]
    go_enter Try.func79, Try.ntmps79
    go_wp2_with fail
    go_ret
    exact ⟨rfl, rfl⟩

set_option maxRecDepth 100000 in
set_option maxHeartbeats 4000000 in
theorem raRatio_any (s : ByteArray) (w : World) (hG : WordG (wcs s)) : Calls Try.prog 80 #[.string s] w fun e w' => e = .returned (.tuple #[.int .i64 (putF (wcs s)).1, .int .i64 (putF (wcs s)).2.1]) ∧ w = w' := by
  have h20 := wcs_size hG
  have h21 : (s.size : Int) ≤ 20 := by omega
  go_enter Try.func80, Try.ntmps80
  go_wp2_with fail
  go_loopw [4, 5, 6] (fun a b i wr => ∃ (pos : Nat) (x y : Int) (L : List Sq), a = .int .i64 x ∧ b = .int .i64 y ∧ i = .int .i64 pos ∧ wr = w ∧ pos ≤ s.size ∧ putF ((wcs s).take pos) = (x, y, L)) (fun _ _ i _ => s.size - (intOf i).toNat)
  case atStart => exact ⟨0, 1, 1, _, rfl, rfl, rfl, rfl, Nat.zero_le _, rfl⟩
  case round =>
    obtain ⟨pos, x, y, L, rfl, rfl, rfl, rfl, hps, hF⟩ := hrel
    have HF := Lib.hid hF
    have hbd : Bnd 1048576 (x, y, L) := by rw [← hF]; exact putF_take_bnd (by rw [wcs_len]; exact h20) pos
    have hx0 : 1 ≤ x ∧ x ≤ 1048576 := hbd.1
    have hy0 : 1 ≤ y ∧ y ≤ 1048576 := hbd.2.1
    obtain ⟨hx0, hx1⟩ := hx0
    obtain ⟨hy0, hy1⟩ := hy0
    clear hF hbd
    by_cases hp : pos < s.size
    · have k0 : (0 : Int) ≤ (pos : Int) := by omega
      have k1 : (pos : Int) < (s.size : Int) := by omega
      by_cases h98 : (s[pos]'hp).toNat = 98
      · have H98 := Lib.hid h98
        have i98 : ((s[pos]'hp).toNat : Int) = 98 := by rw [h98]; rfl
        clear h98
        go_wp2_with fail
        go_roundw
        case rel =>
          have e := putF_take (wcs_get s pos hp)
          rw [HF.out] at e
          refine ⟨pos + 1, x + y, y, L ++ [⟨x, 0, y⟩], rfl, rfl, rfl, by first | rfl | trivial, by omega, ?_⟩
          rw [e]; exact putS_b H98.out
        case measure => simp [intOf]; omega
      · have H98 := Lib.hid h98
        have i98 : ¬ ((s[pos]'hp).toNat : Int) = 98 := by omega
        clear h98
        go_wp2_with fail
        go_roundw
        case rel =>
          have e := putF_take (wcs_get s pos hp)
          rw [HF.out] at e
          refine ⟨pos + 1, x, y + x, L ++ [⟨0, y, x⟩], rfl, rfl, rfl, by first | rfl | trivial, by omega, ?_⟩
          rw [e]; exact putS_u H98.out
        case measure => simp [intOf]; omega
    · obtain rfl : pos = s.size := by omega
      have hF := HF.out
      rw [List.take_of_length_le (by rw [wcs_len]; exact Nat.le_refl _)] at hF
      have HF2 := Lib.hid hF
      clear hF
      go_wp2_with fail
      go_ret2
      exact ⟨by rw [HF2.out]; rfl, rfl⟩

/-- It returns the squares of a word, in memory of its own. -/
def RetSq (w : World) (R : List Sq) (e : Ending) (w' : World) : Prop :=
  ∃ A n c, e = .returned (.slice A n c) ∧ n = R.length ∧ w'.ownsRow w.heap.size 65 3 (.slice A n c) n (flat R) ∧ Below w.heap.size w w'
set_option maxRecDepth 100000 in
set_option maxHeartbeats 4000000 in
theorem raSquares_any (s : ByteArray) (w : World) (hG : WordG (wcs s)) : Calls Try.prog 84 #[.string s] w (RetSq w (putF (wcs s)).2.2) := by
  have h20 := wcs_size hG
  have h21 : (s.size : Int) ≤ 20 := by omega
  obtain ⟨j0, hj, hz0, hz1, hz2⟩ := info_parts infoSq
  have b0 : Below w.heap.size w (w.alloc (.cells #[.int .i64 0, .int .i64 0, .int .i64 1] 65)) := (Below.refl _ _).alloc (Nat.le_refl _) _
  have o0 : (w.alloc (.cells #[.int .i64 0, .int .i64 0, .int .i64 1] 65)).ownsRow w.heap.size 65 3 (.slice (some ⟨w.heap.size, 0, none⟩) 1 1) 1 (flat [⟨0, 0, 1⟩]) := World.ownsRow_lit w #[.int .i64 0, .int .i64 0, .int .i64 1] 1 (Nat.le_refl _) (by decide) rfl
  go_enter Try.func84, Try.ntmps84
  go_wp2_with fail
  go_loopw [3, 4, 5, 6] (fun q a b i wr => ∃ (pos : Nat) (x y : Int) (L : List Sq) (A : Option Addr) (k c : Nat), q = .slice A k c ∧ a = .int .i64 x ∧ b = .int .i64 y ∧ i = .int .i64 pos ∧ pos ≤ s.size ∧ putF ((wcs s).take pos) = (x, y, L) ∧ Below w.heap.size w wr ∧ k = L.length ∧ wr.ownsRow w.heap.size 65 3 (.slice A k c) k (flat L)) (fun _ _ _ i _ => s.size - (intOf i).toNat)
  case atStart => exact ⟨0, 1, 1, _, _, 1, 1, rfl, rfl, rfl, rfl, Nat.zero_le _, rfl, b0, rfl, o0⟩
  case round =>
    obtain ⟨pos, x, y, L, A, k, c, rfl, rfl, rfl, rfl, hps, hF, hbr, hk, hsq⟩ := hrel
    have HF := Lib.hid hF
    have HK := Lib.hid hk
    have hbd : Bnd 1048576 (x, y, L) := by rw [← hF]; exact putF_take_bnd (by rw [wcs_len]; exact h20) pos
    have hx0 : 1 ≤ x ∧ x ≤ 1048576 := hbd.1
    have hy0 : 1 ≤ y ∧ y ≤ 1048576 := hbd.2.1
    obtain ⟨hx0, hx1⟩ := hx0
    obtain ⟨hy0, hy1⟩ := hy0
    have hlen0 : k ≤ 21 := by
      have h1 := putF_length ((wcs s).take pos)
      rw [hF, List.length_take] at h1
      simp only at h1
      omega
    have hbd1 : k + 1 ≤ maxLen := by unfold maxLen; omega
    have hbd2 : (k + 1) * 24 ≤ 140737488355328 := by omega
    have hbs := hbr.size
    clear hF hbd hk hlen0 o0 b0
    by_cases hp : pos < s.size
    · have k0 : (0 : Int) ≤ (pos : Int) := by omega
      have k1 : (pos : Int) < (s.size : Int) := by omega
      by_cases h98 : (s[pos]'hp).toNat = 98
      · have H98 := Lib.hid h98
        have i98 : ((s[pos]'hp).toNat : Int) = 98 := by rw [h98]; rfl
        clear h98
        go_wp2_with (at_builtin; refine app_list rfl _ _ _ rfl w.heap.size 65 j0 (.agg #[.int .i64 0, .int .i64 0, .int .i64 0]) 3 24 Try.underlying27 hj hz0 hz1 hz2 rfl (by decide) (.slice A k c) k _ rfl (hsq.alloc _) (some ⟨wr.heap.size, 0, none⟩) 1 1 [.int .i64 x, .int .i64 0, .int .i64 y] rfl rfl (.inr ⟨_, rfl, new3 _ _ _ _ _⟩) (one3 _ _ _) hbd1 hbd2 (by simp; omega) ?_; intro v' w6 hown6 hgrow hv6; obtain ⟨A6, c6, rfl⟩ := own_val hown6; have hB6 : Below w.heap.size w w6 := (hbr.trans (((Below.refl _ _).alloc (Nat.le_refl _) _).mono hbs)).trans (below_of_grown hgrow (by simp; omega) (fun j hj => (hsq.lt j hj).1)))
        go_roundw
        case rel =>
          have e := putF_take (wcs_get s pos hp)
          rw [HF.out] at e
          refine ⟨pos + 1, x + y, y, L ++ [⟨x, 0, y⟩], A6, k + 1, c6, rfl, rfl, rfl, rfl, by omega, by rw [e]; exact putS_b H98.out, hB6, by simp [HK.out], ?_⟩
          rw [flat_app]
          exact hown6
        case measure => simp [intOf]; omega
      · have H98 := Lib.hid h98
        have i98 : ¬ ((s[pos]'hp).toNat : Int) = 98 := by omega
        clear h98
        go_wp2_with (at_builtin; refine app_list rfl _ _ _ rfl w.heap.size 65 j0 (.agg #[.int .i64 0, .int .i64 0, .int .i64 0]) 3 24 Try.underlying27 hj hz0 hz1 hz2 rfl (by decide) (.slice A k c) k _ rfl (hsq.alloc _) (some ⟨wr.heap.size, 0, none⟩) 1 1 [.int .i64 0, .int .i64 y, .int .i64 x] rfl rfl (.inr ⟨_, rfl, new3 _ _ _ _ _⟩) (one3 _ _ _) hbd1 hbd2 (by simp; omega) ?_; intro v' w6 hown6 hgrow hv6; obtain ⟨A6, c6, rfl⟩ := own_val hown6; have hB6 : Below w.heap.size w w6 := (hbr.trans (((Below.refl _ _).alloc (Nat.le_refl _) _).mono hbs)).trans (below_of_grown hgrow (by simp; omega) (fun j hj => (hsq.lt j hj).1)))
        go_roundw
        case rel =>
          have e := putF_take (wcs_get s pos hp)
          rw [HF.out] at e
          refine ⟨pos + 1, x, y + x, L ++ [⟨0, y, x⟩], A6, k + 1, c6, rfl, rfl, rfl, rfl, by omega, by rw [e]; exact putS_u H98.out, hB6, by simp [HK.out], ?_⟩
          rw [flat_app]
          exact hown6
        case measure => simp [intOf]; omega
    · obtain rfl : pos = s.size := by omega
      have hF := HF.out
      rw [List.take_of_length_le (by rw [wcs_len]; exact Nat.le_refl _)] at hF
      have HF2 := Lib.hid hF
      clear hF
      go_wp2_with fail
      go_ret
      exact ⟨A, k, c, rfl, by rw [HF2.out]; exact HK.out, by rw [HF2.out]; exact hsq, hbr⟩
end Go.Proofs.Ytlfikjjdhmaemaa
