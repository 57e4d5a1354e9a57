/- LinesDown and LinesAcross of the model. -/
import Derived.Test.YtilneimiedfjnaaLnD
set_option linter.all false
namespace Go.Proofs.Ytilneimiedfjnaa
open Go.RowKit Go.Shelf Go.Lib

/-- It returns these numbers in memory of the call's own. -/
def RetL (w : World) (L : List Int) (e : Ending) (w' : World) : Prop :=
  ∃ A c, e = .returned (.slice A L.length c) ∧ w'.ownsRow w.heap.size 3 1 (.slice A L.length c) L.length (ints L) ∧ Below w.heap.size w w'
theorem ifGood_bdL {W H : Int} {L : List Sq} {R : List Int} (h : Good W H L → R.length ≤ 1048576) : (ifGood W H L R).length ≤ 1048576 := by
  unfold ifGood; split
  · next k => exact h (dc_iff.1 k)
  · simp
theorem freeX_sw {L : List Sq} {y : Int} : (∀ s ∈ L, y ≤ s.y ∨ s.y + s.d ≤ y) ↔ J.FreeX (J.swL L) y := by
  constructor
  · intro h s hs
    obtain ⟨t, ht, rfl⟩ := List.mem_map.1 hs
    exact h t ht
  · intro h s hs
    exact h (J.swS s) (List.mem_map_of_mem hs)

set_option maxRecDepth 100000 in
set_option maxHeartbeats 8000000 in
theorem joLinesDown_any (W H : Int) (A : Option Addr) (n c : Nat) (L : List Sq) (w : World) (hl : L.length = n) (hL : SqsAt w w.heap.size A L) (hG : Good W H L) :
    Calls Try.prog 71 #[.agg #[.int .i64 W, .int .i64 H, .slice A n c], .bool true] w (RetL w (J.lnD L W.toNat)) := by
  subst hl
  obtain ⟨m, rfl⟩ : ∃ m : Nat, W = m := ⟨W.toNat, by have := hG.1; omega⟩
  have em : ((m : Int)).toNat = m := by simp
  obtain ⟨j0, hj, hz0, hz1, hz2⟩ := info_parts infoInt
  have Z0 : Box w.heap.size w (w.alloc (.cells #[.int .i64 m, .int .i64 H, .slice A L.length c] 29)) m H A c L := Box.start hL
  obtain ⟨W1, hW1⟩ : ∃ W1, W1 = w.alloc (.cells #[.int .i64 m, .int .i64 H, .slice A L.length c] 29) := ⟨_, rfl⟩
  have hs0 : W1.heap.size = w.heap.size + 1 := by rw [hW1]; simp
  rw [← hW1] at Z0
  obtain ⟨hB1, hz1', b0, b1, b2, hL1⟩ := id Z0
  have hw := hG.1
  have hn := hG.2.2.1
  have sm : ∀ s ∈ L, (0 ≤ s.x ∧ s.x ≤ 500) ∧ (1 ≤ s.d ∧ s.d ≤ 500) := fun s hs => by have h1 := (good_fill hG).within s hs; have h2 := hG.1; have h3 := hG.2.1; unfold Within at h1; omega
  rw [em]
  go_enter Try.func71, Try.ntmps71
  go_wp2_with fail
  rw [← hW1]
  clear b0 b1 b2 hL1 hW1
  go_loopw [5, 7] (fun v i wr => ∃ k : Nat, 1 ≤ k ∧ k ≤ m ∧ i = .int .i64 k ∧ Below (w.heap.size + 1) W1 wr ∧ w.heap.size + 1 ≤ wr.heap.size ∧ wr.ownsRow (w.heap.size + 1) 3 1 v (J.lnD L k).length (ints (J.lnD L k))) (fun _ i _ => m - (intOf i).toNat)
  case atStart => exact ⟨1, Nat.le_refl _, by omega, rfl, Below.refl _ _, by omega, by rw [J.lnD_one]; exact World.ownsRow_nil _ _ _ _⟩
  case round =>
    obtain ⟨k, hk1, hk, rfl, hbr, hzr, hown⟩ := hrel
    have Zr := Z0.keep hbr (Nat.lt_succ_self _) hbr.size
    obtain ⟨hBr, hzr', b0, b1, b2, hLr⟩ := id Zr
    by_cases hlt : k < m
    · have hlI : (k : Int) < (m : Int) := by omega
      have hlen := J.lnD_len L k
      obtain ⟨R, hR⟩ : ∃ R, J.lnD L k = R := ⟨_, rfl⟩
      rw [hR] at hown hlen
      have HR := Lib.hid hR
      have HO := Lib.hid hown
      clear hR hown Z0 hL
      go_wp2_with fail
      obtain ⟨wo, hwo⟩ : ∃ wo, wo = wr := ⟨_, rfl⟩
      rw [← hwo] at hbr hzr hBr hzr' b0 b1 b2 hLr HO Zr ⊢
      clear hwo wr
      go_loopw [8, 25] (fun fr i wi => ∃ (j : Nat) (g : Bool), j ≤ L.length ∧ i = .int .i64 j ∧ fr = .bool g ∧ Below wo.heap.size wo wi ∧ (g = true ↔ ∀ s ∈ L.take j, (k : Int) ≤ s.x ∨ s.x + s.d ≤ k)) (fun _ i _ => L.length - (intOf i).toNat)
      case atStart => exact ⟨0, true, Nat.zero_le _, rfl, rfl, Below.refl _ _, by simp⟩
      case round =>
        obtain ⟨j, g, hj', rfl, rfl, hBi, hg⟩ := hrel
        have Zi := Zr.keep hBi hzr' hBi.size
        obtain ⟨_, hzi, b0', b1', b2', hLi⟩ := id Zi
        have hsi := hBi.size
        by_cases hjl : j < L.length
        · obtain ⟨s, hs⟩ : ∃ s, L[j]? = some s := ⟨_, List.getElem?_eq_getElem hjl⟩
          obtain ⟨b, off, rfl, hb, c0, c1, c2⟩ := hLi j s hs
          obtain ⟨sf, sd⟩ := sm s (List.mem_of_getElem? hs)
          have htk : ∀ p : Sq → Prop, (∀ q ∈ L.take (j + 1), p q) ↔ ((∀ q ∈ L.take j, p q) ∧ p s) := fun p => by
            rw [List.take_add_one, hs]
            constructor
            · exact fun h => ⟨fun q hq => h q (by simp [hq]), h s (by simp)⟩
            · rintro ⟨h1, h2⟩ q hq
              rcases List.mem_append.1 hq with hq | hq
              · exact h1 q hq
              · simp at hq; subst hq; exact h2
          have HT := Lib.hid htk
          have HS := Lib.hid hs
          have HG := Lib.hid hg
          have jz : (0 : Int) ≤ (j : Int) := by omega
          have j1 : (j : Int) < (L.length : Int) := by omega
          clear hs hLi hLr Zr Zi htk hg b0 b1 b2
          cases g with
          | false =>
            go_wp2_with fail
            go_roundw
            case rel => exact ⟨j + 1, false, by omega, by go_num, rfl, (hBi.alloc (by omega) _), by rw [HT.out]; exact ⟨fun h => (by cases h), fun h => absurd (HG.out.2 h.1) (by decide)⟩⟩
            case measure => simp [intOf]; omega
          | true =>
            by_cases h1 : (k : Int) ≤ s.x
            · have d1 : decide ((k : Int) ≤ s.x) = true := decide_eq_true h1
              go_wp2_with fail
              go_roundw
              case rel => exact ⟨j + 1, true, by omega, by go_num, rfl, (hBi.alloc (by omega) _), by rw [HT.out]; exact ⟨fun _ => ⟨HG.out.1 rfl, .inl h1⟩, fun _ => rfl⟩⟩
              case measure => simp [intOf]; omega
            · have d1 : decide ((k : Int) ≤ s.x) = false := decide_eq_false h1
              have wq : IntKind.i64.wrap (s.x + s.d) = s.x + s.d := IntWalk.i64_in _ (by omega)
              by_cases h2 : s.x + s.d ≤ (k : Int)
              · have d2 : decide (s.x + s.d ≤ (k : Int)) = true := decide_eq_true h2
                go_wp2_with fail
                go_roundw
                case rel => exact ⟨j + 1, true, by omega, by go_num, rfl, (hBi.alloc (by omega) _), by rw [HT.out]; exact ⟨fun _ => ⟨HG.out.1 rfl, .inr h2⟩, fun _ => rfl⟩⟩
                case measure => simp [intOf]; omega
              · have d2 : decide (s.x + s.d ≤ (k : Int)) = false := decide_eq_false h2
                go_wp2_with fail
                go_roundw
                case rel => exact ⟨j + 1, false, by omega, by go_num, rfl, (hBi.alloc (by omega) _), by rw [HT.out]; exact ⟨fun h => (by cases h), fun h => by rcases h.2 with h | h <;> omega⟩⟩
                case measure => simp [intOf]; omega
        · obtain rfl : j = L.length := by omega
          rw [List.take_of_length_le (Nat.le_refl _)] at hg
          have hbl : R.length + 1 ≤ maxLen := by unfold maxLen; omega
          have hby : (R.length + 1) * 8 ≤ 140737488355328 := by omega
          have hoi := own_keep HO.out hBi
          obtain ⟨A3, c3, rfl⟩ := own_val hoi
          have hBk : Below (w.heap.size + 1) W1 wr := hbr.trans (hBi.mono hzr)
          have hfree : (∀ s ∈ L, (k : Int) ≤ s.x ∨ s.x + s.d ≤ k) ↔ J.FreeX L k := Iff.rfl
          have HFr := Lib.hid hfree
          clear hLi hLr Zr Zi b0 b1 b2 b0' b1' b2' hfree sm
          cases g with
          | true =>
            have HE := Lib.hid ((J.lnD_yes hk1 (HFr.out.1 (hg.1 rfl))).trans (by rw [HR.out]) : J.lnD L (k + 1) = R ++ [(k : Int)])
            clear hg
            go_wp2_with (at_builtin; refine app_list rfl _ _ _ rfl (w.heap.size + 1) 3 j0 (.int .i64 0) 1 8 Try.underlying25 hj hz0 hz1 hz2 rfl (by decide) (.slice A3 R.length c3) R.length _ rfl (hoi.alloc _) (some ⟨wr.heap.size, 0, none⟩) 1 1 [.int .i64 k] rfl rfl (.inr ⟨_, rfl, new1d _ _ _⟩) (one1d _) hbl hby (by simp; omega) ?_; intro v' w6 hown6 hgrow hv6; have hb6 : Below (w.heap.size + 1) W1 w6 := (hBk.alloc (by omega) _).grown hgrow (by simp; omega) (fun kk e => (hoi.lt kk e).1); have hz6 := hgrow.size; simp at hz6)
            go_roundw
            case rel => exact ⟨k + 1, by omega, by omega, by go_num, hb6, by omega, by rw [HE.out, List.length_append, ints_app]; exact hown6⟩
            case measure => simp [intOf]; omega
          | false =>
            have HE := Lib.hid ((J.lnD_no (fun h => by have := hg.2 (HFr.out.2 h); cases this)).trans HR.out : J.lnD L (k + 1) = R)
            clear hg
            go_wp2_with fail
            go_roundw
            case rel => exact ⟨k + 1, by omega, by omega, by go_num, hBk, by omega, by rw [HE.out]; exact hoi⟩
            case measure => simp [intOf]; omega
    · obtain rfl : k = m := by omega
      have hBF := hB1.trans (hbr.mono (by omega))
      obtain ⟨A3, c3, rfl⟩ := own_val hown
      have hown := own_base (base' := w.heap.size) hown (by omega)
      clear hL Z0 Zr hLr hG
      go_wp2_with fail
      go_ret
      exact ⟨A3, c3, rfl, hown, hBF⟩

set_option maxRecDepth 100000 in
set_option maxHeartbeats 8000000 in
theorem joLinesAcross_any (W H : Int) (A : Option Addr) (n c : Nat) (L : List Sq) (w : World) (hl : L.length = n) (hL : SqsAt w w.heap.size A L) (hG : Good W H L) :
    Calls Try.prog 71 #[.agg #[.int .i64 W, .int .i64 H, .slice A n c], .bool false] w (RetL w (J.lnD (J.swL L) H.toNat)) := by
  subst hl
  obtain ⟨m, rfl⟩ : ∃ m : Nat, H = m := ⟨H.toNat, by have := hG.2.1; omega⟩
  have em : ((m : Int)).toNat = m := by simp
  obtain ⟨j0, hj, hz0, hz1, hz2⟩ := info_parts infoInt
  have Z0 : Box w.heap.size w (w.alloc (.cells #[.int .i64 W, .int .i64 m, .slice A L.length c] 29)) W m A c L := Box.start hL
  obtain ⟨W1, hW1⟩ : ∃ W1, W1 = w.alloc (.cells #[.int .i64 W, .int .i64 m, .slice A L.length c] 29) := ⟨_, rfl⟩
  have hs0 : W1.heap.size = w.heap.size + 1 := by rw [hW1]; simp
  rw [← hW1] at Z0
  obtain ⟨hB1, hz1', b0, b1, b2, hL1⟩ := id Z0
  have hw := hG.2.1
  have hn := hG.2.2.1
  have sm : ∀ s ∈ L, (0 ≤ s.y ∧ s.y ≤ 500) ∧ (1 ≤ s.d ∧ s.d ≤ 500) := fun s hs => by have h1 := (good_fill hG).within s hs; have h2 := hG.1; have h3 := hG.2.1; unfold Within at h1; omega
  rw [em]
  go_enter Try.func71, Try.ntmps71
  go_wp2_with fail
  rw [← hW1]
  clear b0 b1 b2 hL1 hW1
  go_loopw [5, 7] (fun v i wr => ∃ k : Nat, 1 ≤ k ∧ k ≤ m ∧ i = .int .i64 k ∧ Below (w.heap.size + 1) W1 wr ∧ w.heap.size + 1 ≤ wr.heap.size ∧ wr.ownsRow (w.heap.size + 1) 3 1 v (J.lnD (J.swL L) k).length (ints (J.lnD (J.swL L) k))) (fun _ i _ => m - (intOf i).toNat)
  case atStart => exact ⟨1, Nat.le_refl _, by omega, rfl, Below.refl _ _, by omega, by rw [J.lnD_one]; exact World.ownsRow_nil _ _ _ _⟩
  case round =>
    obtain ⟨k, hk1, hk, rfl, hbr, hzr, hown⟩ := hrel
    have Zr := Z0.keep hbr (Nat.lt_succ_self _) hbr.size
    obtain ⟨hBr, hzr', b0, b1, b2, hLr⟩ := id Zr
    by_cases hlt : k < m
    · have hlI : (k : Int) < (m : Int) := by omega
      have hlen := J.lnD_len (J.swL L) k
      obtain ⟨R, hR⟩ : ∃ R, J.lnD (J.swL L) k = R := ⟨_, rfl⟩
      rw [hR] at hown hlen
      have HR := Lib.hid hR
      have HO := Lib.hid hown
      clear hR hown Z0 hL
      go_wp2_with fail
      obtain ⟨wo, hwo⟩ : ∃ wo, wo = wr := ⟨_, rfl⟩
      rw [← hwo] at hbr hzr hBr hzr' b0 b1 b2 hLr HO Zr ⊢
      clear hwo wr
      go_loopw [8, 25] (fun fr i wi => ∃ (j : Nat) (g : Bool), j ≤ L.length ∧ i = .int .i64 j ∧ fr = .bool g ∧ Below wo.heap.size wo wi ∧ (g = true ↔ ∀ s ∈ L.take j, (k : Int) ≤ s.y ∨ s.y + s.d ≤ k)) (fun _ i _ => L.length - (intOf i).toNat)
      case atStart => exact ⟨0, true, Nat.zero_le _, rfl, rfl, Below.refl _ _, by simp⟩
      case round =>
        obtain ⟨j, g, hj', rfl, rfl, hBi, hg⟩ := hrel
        have Zi := Zr.keep hBi hzr' hBi.size
        obtain ⟨_, hzi, b0', b1', b2', hLi⟩ := id Zi
        have hsi := hBi.size
        by_cases hjl : j < L.length
        · obtain ⟨s, hs⟩ : ∃ s, L[j]? = some s := ⟨_, List.getElem?_eq_getElem hjl⟩
          obtain ⟨b, off, rfl, hb, c0, c1, c2⟩ := hLi j s hs
          obtain ⟨sf, sd⟩ := sm s (List.mem_of_getElem? hs)
          have htk : ∀ p : Sq → Prop, (∀ q ∈ L.take (j + 1), p q) ↔ ((∀ q ∈ L.take j, p q) ∧ p s) := fun p => by
            rw [List.take_add_one, hs]
            constructor
            · exact fun h => ⟨fun q hq => h q (by simp [hq]), h s (by simp)⟩
            · rintro ⟨h1, h2⟩ q hq
              rcases List.mem_append.1 hq with hq | hq
              · exact h1 q hq
              · simp at hq; subst hq; exact h2
          have HT := Lib.hid htk
          have HS := Lib.hid hs
          have HG := Lib.hid hg
          have jz : (0 : Int) ≤ (j : Int) := by omega
          have j1 : (j : Int) < (L.length : Int) := by omega
          clear hs hLi hLr Zr Zi htk hg b0 b1 b2
          cases g with
          | false =>
            go_wp2_with fail
            go_roundw
            case rel => exact ⟨j + 1, false, by omega, by go_num, rfl, (hBi.alloc (by omega) _), by rw [HT.out]; exact ⟨fun h => (by cases h), fun h => absurd (HG.out.2 h.1) (by decide)⟩⟩
            case measure => simp [intOf]; omega
          | true =>
            by_cases h1 : (k : Int) ≤ s.y
            · have d1 : decide ((k : Int) ≤ s.y) = true := decide_eq_true h1
              go_wp2_with fail
              go_roundw
              case rel => exact ⟨j + 1, true, by omega, by go_num, rfl, (hBi.alloc (by omega) _), by rw [HT.out]; exact ⟨fun _ => ⟨HG.out.1 rfl, .inl h1⟩, fun _ => rfl⟩⟩
              case measure => simp [intOf]; omega
            · have d1 : decide ((k : Int) ≤ s.y) = false := decide_eq_false h1
              have wq : IntKind.i64.wrap (s.y + s.d) = s.y + s.d := IntWalk.i64_in _ (by omega)
              by_cases h2 : s.y + s.d ≤ (k : Int)
              · have d2 : decide (s.y + s.d ≤ (k : Int)) = true := decide_eq_true h2
                go_wp2_with fail
                go_roundw
                case rel => exact ⟨j + 1, true, by omega, by go_num, rfl, (hBi.alloc (by omega) _), by rw [HT.out]; exact ⟨fun _ => ⟨HG.out.1 rfl, .inr h2⟩, fun _ => rfl⟩⟩
                case measure => simp [intOf]; omega
              · have d2 : decide (s.y + s.d ≤ (k : Int)) = false := decide_eq_false h2
                go_wp2_with fail
                go_roundw
                case rel => exact ⟨j + 1, false, by omega, by go_num, rfl, (hBi.alloc (by omega) _), by rw [HT.out]; exact ⟨fun h => (by cases h), fun h => by rcases h.2 with h | h <;> omega⟩⟩
                case measure => simp [intOf]; omega
        · obtain rfl : j = L.length := by omega
          rw [List.take_of_length_le (Nat.le_refl _)] at hg
          have hbl : R.length + 1 ≤ maxLen := by unfold maxLen; omega
          have hby : (R.length + 1) * 8 ≤ 140737488355328 := by omega
          have hoi := own_keep HO.out hBi
          obtain ⟨A3, c3, rfl⟩ := own_val hoi
          have hBk : Below (w.heap.size + 1) W1 wr := hbr.trans (hBi.mono hzr)
          have hfree : (∀ s ∈ L, (k : Int) ≤ s.y ∨ s.y + s.d ≤ k) ↔ J.FreeX (J.swL L) k := freeX_sw
          have HFr := Lib.hid hfree
          clear hLi hLr Zr Zi b0 b1 b2 b0' b1' b2' hfree sm
          cases g with
          | true =>
            have HE := Lib.hid ((J.lnD_yes hk1 (HFr.out.1 (hg.1 rfl))).trans (by rw [HR.out]) : J.lnD (J.swL L) (k + 1) = R ++ [(k : Int)])
            clear hg
            go_wp2_with (at_builtin; refine app_list rfl _ _ _ rfl (w.heap.size + 1) 3 j0 (.int .i64 0) 1 8 Try.underlying25 hj hz0 hz1 hz2 rfl (by decide) (.slice A3 R.length c3) R.length _ rfl (hoi.alloc _) (some ⟨wr.heap.size, 0, none⟩) 1 1 [.int .i64 k] rfl rfl (.inr ⟨_, rfl, new1d _ _ _⟩) (one1d _) hbl hby (by simp; omega) ?_; intro v' w6 hown6 hgrow hv6; have hb6 : Below (w.heap.size + 1) W1 w6 := (hBk.alloc (by omega) _).grown hgrow (by simp; omega) (fun kk e => (hoi.lt kk e).1); have hz6 := hgrow.size; simp at hz6)
            go_roundw
            case rel => exact ⟨k + 1, by omega, by omega, by go_num, hb6, by omega, by rw [HE.out, List.length_append, ints_app]; exact hown6⟩
            case measure => simp [intOf]; omega
          | false =>
            have HE := Lib.hid ((J.lnD_no (fun h => by have := hg.2 (HFr.out.2 h); cases this)).trans HR.out : J.lnD (J.swL L) (k + 1) = R)
            clear hg
            go_wp2_with fail
            go_roundw
            case rel => exact ⟨k + 1, by omega, by omega, by go_num, hBk, by omega, by rw [HE.out]; exact hoi⟩
            case measure => simp [intOf]; omega
    · obtain rfl : k = m := by omega
      have hBF := hB1.trans (hbr.mono (by omega))
      obtain ⟨A3, c3, rfl⟩ := own_val hown
      have hown := own_base (base' := w.heap.size) hown (by omega)
      clear hL Z0 Zr hLr hG
      go_wp2_with fail
      go_ret
      exact ⟨A3, c3, rfl, hown, hBF⟩

set_option maxRecDepth 100000 in
set_option maxHeartbeats 2000000 in
theorem specLinesDown_any (W H : Int) (A : Option Addr) (n c : Nat) (L : List Sq) (w : World) (hl : L.length = n) (hc : n ≤ c) (hL : SqsAt w w.heap.size A L) :
    Calls Try.prog 27 #[.agg #[.int .i64 W, .int .i64 H, .slice A n c]] w (RetInts w (ifGood W H L (J.lnD L W.toNat)) (dc (Good W H L))) := by
  subst hl
  have Z0 : Box w.heap.size w (w.alloc (.cells #[.int .i64 W, .int .i64 H, .slice A L.length c] 29)) W H A c L := Box.start hL
  obtain ⟨W1, hW1⟩ : ∃ W1, W1 = w.alloc (.cells #[.int .i64 W, .int .i64 H, .slice A L.length c] 29) := ⟨_, rfl⟩
  rw [← hW1] at Z0
  obtain ⟨hB1, hz1', b0, b1, b2, hL1⟩ := id Z0
  by_cases hG : Good W H L
  · rw [ifGood_yes hG, dc_true hG]
    go_enter Try.func27, Try.ntmps27
    go_wp2_with fail
    rw [← hW1]
    refine (callB_yes (cuGood_any W H A _ c L _ rfl hc (hL1.mono hB1.size)) hG).mono ?_
    rintro e w2 ⟨rfl, hb2⟩
    have Z2 := Z0.next hb2
    clear b0 b1 b2 hL1 hB1 hz1' Z0 hb2 hW1
    obtain ⟨hB2, hz2', b0, b1, b2, hL2⟩ := id Z2
    go_wp2_with fail
    refine (joLinesDown_any W H A _ c L w2 rfl (hL2.mono (by omega)) hG).mono ?_
    rintro e w3 ⟨A3, c3, rfl, ho3, hb3⟩
    have hB3 := hB2.trans (hb3.mono hB2.size)
    have ho3 := own_base (base' := w.heap.size) ho3 hB2.size
    clear b0 b1 b2 hL2
    go_wp2_with fail
    go_ret2
    exact RetInts.mk rfl ho3 hB3
  · rw [ifGood_no hG, dc_false hG]
    go_enter Try.func27, Try.ntmps27
    go_wp2_with fail
    rw [← hW1]
    refine (callB_no (cuGood_any W H A _ c L _ rfl hc (hL1.mono hB1.size)) hG).mono ?_
    rintro e w2 ⟨rfl, hb2⟩
    go_wp2_with fail
    go_ret2
    exact RetInts.none_ (hB1.trans (hb2.mono hB1.size))

set_option maxRecDepth 100000 in
set_option maxHeartbeats 2000000 in
theorem specLinesAcross_any (W H : Int) (A : Option Addr) (n c : Nat) (L : List Sq) (w : World) (hl : L.length = n) (hc : n ≤ c) (hL : SqsAt w w.heap.size A L) :
    Calls Try.prog 30 #[.agg #[.int .i64 W, .int .i64 H, .slice A n c]] w (RetInts w (ifGood W H L (J.lnD (J.swL L) H.toNat)) (dc (Good W H L))) := by
  subst hl
  have Z0 : Box w.heap.size w (w.alloc (.cells #[.int .i64 W, .int .i64 H, .slice A L.length c] 29)) W H A c L := Box.start hL
  obtain ⟨W1, hW1⟩ : ∃ W1, W1 = w.alloc (.cells #[.int .i64 W, .int .i64 H, .slice A L.length c] 29) := ⟨_, rfl⟩
  rw [← hW1] at Z0
  obtain ⟨hB1, hz1', b0, b1, b2, hL1⟩ := id Z0
  by_cases hG : Good W H L
  · rw [ifGood_yes hG, dc_true hG]
    go_enter Try.func30, Try.ntmps30
    go_wp2_with fail
    rw [← hW1]
    refine (callB_yes (cuGood_any W H A _ c L _ rfl hc (hL1.mono hB1.size)) hG).mono ?_
    rintro e w2 ⟨rfl, hb2⟩
    have Z2 := Z0.next hb2
    clear b0 b1 b2 hL1 hB1 hz1' Z0 hb2 hW1
    obtain ⟨hB2, hz2', b0, b1, b2, hL2⟩ := id Z2
    go_wp2_with fail
    refine (joLinesAcross_any W H A _ c L w2 rfl (hL2.mono (by omega)) hG).mono ?_
    rintro e w3 ⟨A3, c3, rfl, ho3, hb3⟩
    have hB3 := hB2.trans (hb3.mono hB2.size)
    have ho3 := own_base (base' := w.heap.size) ho3 hB2.size
    clear b0 b1 b2 hL2
    go_wp2_with fail
    go_ret2
    exact RetInts.mk rfl ho3 hB3
  · rw [ifGood_no hG, dc_false hG]
    go_enter Try.func30, Try.ntmps30
    go_wp2_with fail
    rw [← hW1]
    refine (callB_no (cuGood_any W H A _ c L _ rfl hc (hL1.mono hB1.size)) hG).mono ?_
    rintro e w2 ⟨rfl, hb2⟩
    go_wp2_with fail
    go_ret2
    exact RetInts.none_ (hB1.trans (hb2.mono hB1.size))

end Go.Proofs.Ytilneimiedfjnaa
