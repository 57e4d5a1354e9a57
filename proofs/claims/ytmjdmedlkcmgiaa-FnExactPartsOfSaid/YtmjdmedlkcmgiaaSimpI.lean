/- Contract of the program's IsSimple. -/
import Derived.Test.YtmjdmedlkcmgiaaPartsI
import Derived.WalkMore
set_option linter.all false
namespace Go.Proofs.Ytmjdmedlkcmgiaa
open Go.RowKit

theorem isPart_any (W H : Int) (A : Option Addr) (n c : Nat) (A' : Option Addr) (m c' : Nat) (w : World) (hn : n ≤ 1048576) (hm : m ≤ 1048576) :
    Calls Try.prog 88 #[.agg #[.int .i64 W, .int .i64 H, .slice A n c], .slice A' m c'] w (RetB w (2 ≤ m ∧ m < n)) := by
  by_cases h1 : 2 ≤ m
  · by_cases h2 : m < n
    · have e1 : (2 : Int) ≤ (m : Int) := by omega
      have e2 : (m : Int) < (n : Int) := by omega
      go_enter Try.func88, Try.ntmps88
      go_wp2
      go_ret; exact RetB.mk (by first | omega | (simp; done) | (simp; omega)) ((Below.refl _ _).alloc (Nat.le_refl _) _)
    · have e1 : (2 : Int) ≤ (m : Int) := by omega
      have e2 : ¬ (m : Int) < (n : Int) := by omega
      go_enter Try.func88, Try.ntmps88
      go_wp2
      go_ret; exact RetB.mk (by first | omega | (simp; done) | (simp; omega)) ((Below.refl _ _).alloc (Nat.le_refl _) _)
  · have e1 : ¬ (2 : Int) ≤ (m : Int) := by omega
    go_enter Try.func88, Try.ntmps88
    go_wp2
    go_ret; exact RetB.mk (by first | omega | (simp; done) | (simp; omega)) ((Below.refl _ _).alloc (Nat.le_refl _) _)

/-- It returns whether there is no part, and whether that is asked of a cut. -/
def RetSimp (w : World) (W H : Int) (L : List Sq) (e : Ending) (w' : World) : Prop :=
  e = .returned (.tuple #[.bool (dc (Good W H L ∧ NoPart L)), .bool (dc (Good W H L))]) ∧ Below w.heap.size w w'
theorem ret_tb {a b a' b' : Bool} (h : a = a') (h' : b = b') : Ending.returned (.tuple #[.bool a, .bool b]) = .returned (.tuple #[.bool a', .bool b']) := by rw [h, h']

set_option maxRecDepth 100000 in
set_option maxHeartbeats 8000000 in
theorem implSimp_any (W H : Int) (A : Option Addr) (n c : Nat) (L : List Sq) (w : World) (hl : L.length = n) (hc : n ≤ c) (hL : SqsAt w w.heap.size A L) (hwf : ∀ s ∈ L, wfS s) :
    Calls Try.prog 48 #[.agg #[.int .i64 W, .int .i64 H, .slice A n c]] w (RetSimp w W H L) := by
  subst hl
  have hb0 : ∀ o : Obj, Below w.heap.size w (w.alloc o) := fun o => (Below.refl _ _).alloc (Nat.le_refl _) o
  have Z0 : Box w.heap.size w (w.alloc (.cells #[.int .i64 W, .int .i64 H, .slice A L.length c] 31)) W H A c L := Box.start hL
  by_cases hG : Good W H L
  · have hg30 := hG.2.2.1.2
    have HG := Lib.hid hG
    go_enter Try.func48, Try.ntmps48
    go_wp2_with fail
    go_step3
    go_wp2_with fail
    refine (callB_yes (isCut_good W H A _ c L _ rfl hc ((hL.below (hb0 _)).mono (hb0 _).size) hwf) hG).mono ?_
    rintro e w1 ⟨rfl, hb1⟩
    have Z1 := Z0.next hb1
    obtain ⟨hB1, hz1, b0, b1, b2, hL1⟩ := id Z1
    clear Z0 hb1 hb0 hG
    go_wp2_with fail
    go_step3
    go_wp2_with fail
    go_loopw [4, 15] (fun v i wr => ∃ i' : Nat, i' ≤ L.length ∧ i = .int .i64 i' ∧ v = .bool true ∧ Below w1.heap.size w1 wr ∧ ∀ (a b : Nat) f q, a < i' → L[a]? = some f → L[b]? = some q → ¬ PartI L f q) (fun _ i _ => L.length - (intOf i).toNat)
    case atStart => exact ⟨0, Nat.zero_le _, rfl, rfl, Below.refl _ _, fun a b f q h => by omega⟩
    case round =>
      obtain ⟨i, hik, rfl, rfl, hbr, hno⟩ := hrel
      have hs1 := hbr.size
      have Zr := Z1.next hbr
      obtain ⟨hBr, hzr, d0, d1, d2, hLr⟩ := id Zr
      by_cases hlt : i < L.length
      · obtain ⟨f, hf⟩ : ∃ s, L[i]? = some s := ⟨_, List.getElem?_eq_getElem hlt⟩
        obtain ⟨b, off, rfl, hb, c0, c1, c2⟩ := hLr i f hf
        have hfm := List.mem_of_getElem? hf
        have HF := Lib.hid hf
        have HN := Lib.hid hno
        have k0 : (0 : Int) ≤ (i : Int) := by omega
        have k1 : (i : Int) < (L.length : Int) := by omega
        clear hf hno b0 b1 b2 hL1
        go_wp2_with fail
        obtain ⟨W2, hW2⟩ : ∃ W2, W2 = wr.alloc (.cells #[.int .i64 f.x, .int .i64 f.y, .int .i64 f.d] 70) := ⟨_, rfl⟩
        have hb2 : Below wr.heap.size wr W2 := by rw [hW2]; exact (Below.refl _ _).alloc (Nat.le_refl _) _
        have hz2 : wr.heap.size < W2.heap.size := by rw [hW2]; simp
        have f0 : W2.cell? ⟨wr.heap.size, 0, none⟩ = some (.int .i64 f.x) := by rw [hW2]; simp
        have f1 : W2.cell? ⟨wr.heap.size, 1, none⟩ = some (.int .i64 f.y) := by rw [hW2]; simp
        have f2 : W2.cell? ⟨wr.heap.size, 2, none⟩ = some (.int .i64 f.d) := by rw [hW2]; simp
        have Z2 := Zr.next hb2
        have b2' := Z2.c2
        obtain ⟨g, hg⟩ : ∃ g, g = wr.heap.size := ⟨_, rfl⟩
        have hB2 := hbr.trans (hb2.mono hs1)
        rw [← hW2]
        rw [← hg] at f0 f1 f2 hz2 hs1 ⊢
        clear hW2 d0 d1 d2 c0 c1 c2 hLr Zr hb2 hbr hg hBr hzr
        go_loopw [4, 22] (fun v k wr => ∃ k' : Nat, k' ≤ L.length ∧ k = .int .i64 k' ∧ v = .bool true ∧ Below W2.heap.size W2 wr ∧ ∀ (b : Nat) q, b < k' → L[b]? = some q → ¬ PartI L f q) (fun _ i _ => L.length - (intOf i).toNat)
        case atStart => exact ⟨0, Nat.zero_le _, rfl, rfl, Below.refl _ _, fun b q h => by omega⟩
        case round =>
          obtain ⟨k, hkk, rfl, rfl, hbr, hno⟩ := hrel
          have hs2 := hbr.size
          have Z3 := Z2.next hbr
          obtain ⟨hB3, hz3, d0, d1, d2, hL3⟩ := id Z3
          have g0 := (hbr.cell (p := ⟨g, 0, none⟩) hz2).trans f0
          have g1 := (hbr.cell (p := ⟨g, 1, none⟩) hz2).trans f1
          have g2 := (hbr.cell (p := ⟨g, 2, none⟩) hz2).trans f2
          by_cases hlt2 : k < L.length
          · obtain ⟨q, hq⟩ : ∃ s, L[k]? = some s := ⟨_, List.getElem?_eq_getElem hlt2⟩
            obtain ⟨b', off', he, hb', c0, c1, c2⟩ := hL3 k q hq
            simp only [Option.some.injEq, Addr.mk.injEq] at he
            obtain ⟨rfl, rfl, _⟩ := he
            have hqm := List.mem_of_getElem? hq
            have HQ := Lib.hid hq
            have HN2 := Lib.hid hno
            have q0 : (0 : Int) ≤ (k : Int) := by omega
            have q1 : (k : Int) < (L.length : Int) := by omega
            clear hq hno f0 f1 f2
            go_wp2_with fail
            obtain ⟨W4, hW4⟩ : ∃ W4, W4 = wr.alloc (.cells #[.int .i64 q.x, .int .i64 q.y, .int .i64 q.d] 70) := ⟨_, rfl⟩
            have hb4 : Below wr.heap.size wr W4 := by rw [hW4]; exact (Below.refl _ _).alloc (Nat.le_refl _) _
            have hz4 : wr.heap.size < W4.heap.size := by rw [hW4]; simp
            have p0 : W4.cell? ⟨wr.heap.size, 0, none⟩ = some (.int .i64 q.x) := by rw [hW4]; simp
            have p1 : W4.cell? ⟨wr.heap.size, 1, none⟩ = some (.int .i64 q.y) := by rw [hW4]; simp
            have p2 : W4.cell? ⟨wr.heap.size, 2, none⟩ = some (.int .i64 q.d) := by rw [hW4]; simp
            have Z4 := Z3.next hb4
            have r0 := (hb4.cell (p := ⟨g, 0, none⟩) (Nat.lt_of_lt_of_le hz2 hs2)).trans g0
            have r1 := (hb4.cell (p := ⟨g, 1, none⟩) (Nat.lt_of_lt_of_le hz2 hs2)).trans g1
            have r2 := (hb4.cell (p := ⟨g, 2, none⟩) (Nat.lt_of_lt_of_le hz2 hs2)).trans g2
            have hB4 := hbr.trans (hb4.mono hs2)
            have hgz : g < W4.heap.size := by omega
            rw [← hW4]
            clear hW4 d0 d1 d2 c0 c1 c2 g0 g1 g2 hL3 Z3 hb4 hbr hB3
            obtain ⟨h, hh⟩ : ∃ h, h = wr.heap.size := ⟨_, rfl⟩
            rw [← hh] at p0 p1 p2 hz4 ⊢
            clear hh hz3 hb' b2'
            obtain ⟨_, hz5, d0, d1, d2, hL5⟩ := id Z4
            have hLT := hL5.mono Z4.below.size
            by_cases hp : PartI L f q
            · have hp2 := btw_part.2 hp
              go_region_held3 (fun w' => Below W4.heap.size W4 w' ∧ W4.heap.size ≤ w'.heap.size ∧ ∀ b o, b < W4.heap.size → w'.cell? ⟨b, o, none⟩ = W4.cell? ⟨b, o, none⟩)
                (first | exact keepS (by assumption) (by assumption) | exact ⟨(Below.refl _ _).drew, Nat.le_refl _, fun _ _ _ => rfl⟩)
                (first
                  | (go_at_call 89; refine (between_any W H _ L.length c L f q _ rfl hc (sqsS hLT (by assumption)) HG.out hfm hqm).mono ?_; rintro e w8 ⟨A8, c8, rfl, ho8, hb8⟩)
                  | (go_at_call 88; refine (callB_yes (isPart_any W H _ L.length c _ _ _ _ (by omega) (Nat.le_trans (btw_len L f q) (by omega))) hp2).mono ?_; rintro e w9 ⟨rfl, hb9⟩))
              have hB9 := belowS (B := W4.heap.size) (wp := w9) (by assumption)
              have hBF := Z4.below.trans (hB9.mono Z4.below.size)
              clear hp2
              go_wp2_with fail
              rw [Exit.noGoto_ret]; go_ret2
              exact ⟨ret_tb (dc_false fun h => h.2 i k f q HF.out HQ.out hp).symm (dc_true HG.out).symm, hBF⟩
            · have hp2 := mt btw_part.1 hp
              go_region_held3 (fun w' => Below W4.heap.size W4 w' ∧ W4.heap.size ≤ w'.heap.size ∧ ∀ b o, b < W4.heap.size → w'.cell? ⟨b, o, none⟩ = W4.cell? ⟨b, o, none⟩)
                (first | exact keepS (by assumption) (by assumption) | exact ⟨(Below.refl _ _).drew, Nat.le_refl _, fun _ _ _ => rfl⟩)
                (first
                  | (go_at_call 89; refine (between_any W H _ L.length c L f q _ rfl hc (sqsS hLT (by assumption)) HG.out hfm hqm).mono ?_; rintro e w8 ⟨A8, c8, rfl, ho8, hb8⟩)
                  | (go_at_call 88; refine (callB_no (isPart_any W H _ L.length c _ _ _ _ (by omega) (Nat.le_trans (btw_len L f q) (by omega))) hp2).mono ?_; rintro e w9 ⟨rfl, hb9⟩))
              have hB9 := belowS (B := W4.heap.size) (wp := w9) (by assumption)
              have HP := Lib.hid hp
              clear hp2 hp
              go_wp2_with fail
              go_roundw
              case rel => exact ⟨k + 1, by omega, by go_num, rfl, hB4.trans (hB9.mono hB4.size), fun b q' hb hq' => by
                by_cases e : b = k
                · subst e
                  obtain rfl := Option.some.inj (HQ.out.symm.trans hq')
                  exact HP.out
                · exact HN2.out b q' (by omega) hq'⟩
              case measure => simp [intOf]; omega
          · obtain rfl : k = L.length := by omega
            go_wp2_with fail
            go_roundw
            case rel => exact ⟨i + 1, by omega, by go_num, rfl, hB2.trans (hbr.mono (by omega)), fun a b f' q ha hf' hq => by
              by_cases e : a = i
              · subst e
                obtain rfl := Option.some.inj (HF.out.symm.trans hf')
                exact hno b q (List.getElem?_eq_some_iff.1 hq).1 hq
              · exact HN.out a b f' q (by omega) hf' hq⟩
            case measure => simp [intOf]; omega
      · obtain rfl : i = L.length := by omega
        have HN := Lib.hid hno
        clear hno
        go_wp2_with fail
        rw [Exit.noGoto_ret]; go_ret2
        exact ⟨ret_tb (dc_true ⟨HG.out, fun a b f q hf hq => HN.out a b f q (List.getElem?_eq_some_iff.1 hf).1 hf hq⟩).symm (dc_true HG.out).symm, hB1.trans (hbr.mono hB1.size)⟩
  · go_enter Try.func48, Try.ntmps48
    go_wp2_with fail
    go_step3
    go_wp2_with fail
    refine (callB_no (isCut_good W H A _ c L _ rfl hc ((hL.below (hb0 _)).mono (hb0 _).size) hwf) hG).mono ?_
    rintro e w1 ⟨rfl, hb1⟩
    go_wp2_with fail
    rw [Exit.noGoto_ret]; go_ret2
    exact ⟨ret_tb (dc_false fun h => hG h.1).symm (dc_false hG).symm, (hb0 _).trans (hb1.mono (hb0 _).size)⟩
end Go.Proofs.Ytmjdmedlkcmgiaa
