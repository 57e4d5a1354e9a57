/- The lines of a cut: of the model. -/
import Derived.Test.YtnnhgblgbbfmpaaLnG
import Derived.Test.YtnnhgblgbbfmpaaSS
import Derived.Test.YtnnhgblgbbfmpaaBeside
set_option linter.all false
namespace Go.Proofs.Ytnnhgblgbbfmpaa
open Go.RowKit

/-- The lines as rows of numbers. -/
def lnL (R : List M.Ln) : List (List Int) := R.map fun r => [r.y, r.a, r.b]
theorem lnL_len (R : List M.Ln) : (lnL R).length = R.length := by simp [lnL]
theorem lnL_app (R S : List M.Ln) : lnL (R ++ S) = lnL R ++ lnL S := by simp [lnL]
theorem lnL_tot (R : List M.Ln) : tot (lnL R) = 3 * R.length := by
  induction R with
  | nil => rfl
  | cons r R ih => simp only [lnL, List.map_cons, tot, List.length_cons, List.length_nil] at ih ⊢; omega
/-- A side is at this place, as the first squares tell. -/
def SideK (L : List Sq) (y x : Int) (k : Nat) : Prop := M.Side (L.take k) y x
theorem sideK_zero (L : List Sq) (y x : Int) : ¬ SideK L y x 0 := by
  rintro ⟨s, hs, _⟩
  simp at hs
def SideS (s : Sq) (y x : Int) : Prop := (s.y = y ∨ s.y + s.d = y) ∧ s.x ≤ x ∧ x < s.x + s.d
theorem sideK_succ {L : List Sq} {y x : Int} {k : Nat} {s : Sq} (hs : L[k]? = some s) : SideK L y x (k + 1) ↔ SideK L y x k ∨ SideS s y x := by
  unfold SideK M.Side SideS
  rw [List.take_add_one, hs]
  constructor
  · rintro ⟨q, hq, h⟩
    rcases List.mem_append.1 hq with hq | hq
    · exact .inl ⟨q, hq, h⟩
    · simp at hq; subst hq; exact .inr h
  · rintro (⟨q, hq, h⟩ | h)
    · exact ⟨q, List.mem_append_left _ hq, h⟩
    · exact ⟨s, by simp, h⟩
theorem sideK_all (L : List Sq) (y x : Int) : SideK L y x L.length ↔ M.Side L y x := by unfold SideK; rw [List.take_length]
theorem side_in {L : List Sq} {W H : Nat} (hC : M.Cut L W H) {y x : Int} (h : M.Side L y x) : 0 ≤ y ∧ y ≤ H ∧ 0 ≤ x ∧ x < W := by
  obtain ⟨s, hs, h1, h2, h3⟩ := h
  have ws := hC.within s hs
  unfold M.Inn at ws
  omega
/-- It returns the lines in memory of the call's own. -/
def RetLn (w : World) (L : List Sq) (N : Nat) (e : Ending) (w' : World) : Prop := ∃ R, M.IsLines (M.Side L) R ∧ R.length ≤ N ∧ RetSSv w (lnL R) e w'
theorem run0 {P : Int → Int → Prop} (h : ∀ y x, ¬ P y x) : M.IsLines P [] := ⟨fun r hr => by simp at hr, fun y x => ⟨fun k => absurd k (h y x), fun ⟨r, hr, _⟩ => by simp at hr⟩, List.Pairwise.nil⟩

set_option maxRecDepth 100000 in
set_option maxHeartbeats 16000000 in
theorem neLines_any (a b : Nat) (A : Option Addr) (n c : Nat) (L : List Sq) (w : World) (hl : L.length = n) (hc : n ≤ c) (hG : Good a b L) (hC : M.Cut L a b) (hL : SqsAt w w.heap.size A L) :
    Calls Try.prog 77 #[.agg #[.int .i64 a, .int .i64 b, .slice A n c]] w (RetLn w L 251001) := by
  subst hl
  obtain ⟨j0, hj, hy0, hy1, hy2⟩ := info_parts infoSl
  have hF := good_fill hG
  have hW5 := hF.w
  have hH5 := hF.h
  have h30 : L.length ≤ 30 := hG.2.2.1.2
  obtain ⟨W1, hW1⟩ : ∃ W1, W1 = (w.alloc (.cells #[.int .i64 a, .int .i64 b, .slice A L.length c] 28)) := ⟨_, rfl⟩
  have hB1 : Below w.heap.size w W1 := by rw [hW1]; exact (Below.refl _ _).alloc (Nat.le_refl _) _
  have hz1 : W1.heap.size = w.heap.size + 1 := by rw [hW1]; simp
  have b0 : W1.cell? ⟨w.heap.size, 0, none⟩ = some (.int .i64 a) := by rw [hW1]; simp
  have b1 : W1.cell? ⟨w.heap.size, 1, none⟩ = some (.int .i64 b) := by rw [hW1]; simp
  have b2 : W1.cell? ⟨w.heap.size, 2, none⟩ = some (.slice A L.length c) := by rw [hW1]; simp
  have hin := fun y x => side_in (y := y) (x := x) hC
  obtain ⟨PS, hPS⟩ : ∃ PS, M.Side L = PS := ⟨_, rfl⟩
  have hBig : ∀ y : Nat, y ≤ b → y * (a + 1) + (a + 1) ≤ 251001 := fun y hy => by
    have h1 := Nat.mul_le_mul (show y + 1 ≤ 501 by omega) (show a + 1 ≤ 501 by omega)
    rw [Nat.succ_mul] at h1
    omega
  have HIN := Lib.hid hin
  have HPS := Lib.hid hPS
  have HBIG := Lib.hid hBig
  clear hG hC hin hPS hBig
  go_enter Try.func77, Try.ntmps77
  go_wp2_with fail
  rw [← hW1]
  clear hW1
  go_wp2_with fail
  go_loopw [3, 4] (fun v i wr => ∃ (y : Nat) (A' : Option Addr) (n' c' : Nat) (RW : List Rw) (R : List M.Ln), y ≤ b + 1 ∧ i = .int .i64 y ∧ v = .slice A' n' c' ∧ lists RW = lnL R ∧ OwnSS wr (w.heap.size + 1) A' n' c' RW ∧ M.IsLines (M.Pd PS y 0) R ∧ R.length ≤ y * (a + 1) ∧ Below (w.heap.size + 1) W1 wr ∧ w.heap.size + 1 ≤ wr.heap.size) (fun _ i _ => ((b : Int) + 1 - intOf i).toNat)
  case atStart => exact ⟨0, none, 0, 0, [], [], Nat.zero_le _, rfl, rfl, rfl, OwnSS.nil _ _, run0 fun y x h => by have h1 := h.2; have h2 := h.1; rw [← HPS.out] at h2; have := HIN.out y x h2; omega, by simp, Below.refl _ _, Nat.le_of_eq hz1.symm⟩
  case round =>
    obtain ⟨y, A1, n1, c1, RW, R, hyb, rfl, rfl, hM, hS, hI, hlen, hbr, hzr⟩ := hrel
    have z0 := (hbr.cell (p := ⟨w.heap.size, 0, none⟩) (by simp)).trans b0
    have z1 := (hbr.cell (p := ⟨w.heap.size, 1, none⟩) (by simp)).trans b1
    have z2 := (hbr.cell (p := ⟨w.heap.size, 2, none⟩) (by simp)).trans b2
    have hzr0 : w.heap.size < wr.heap.size := by omega
    have HM := Lib.hid hM
    have HI := Lib.hid hI
    have HLEN := Lib.hid hlen
    clear hM hI hlen
    by_cases hlv : y ≤ b
    · have hlvi : (y : Int) ≤ (b : Int) := by omega
      go_wp2_with fail
      go_loopw [3, 5, 6] (fun v f i wr => ∃ (x : Nat) (fr : Int) (A' : Option Addr) (n' c' : Nat) (RW : List Rw) (R : List M.Ln), x ≤ a + 1 ∧ i = .int .i64 x ∧ f = .int .i64 fr ∧ v = .slice A' n' c' ∧ lists RW = lnL R ∧ OwnSS wr (w.heap.size + 1) A' n' c' RW ∧ M.St PS y x fr R ∧ R.length ≤ y * (a + 1) + x ∧ Below (w.heap.size + 1) W1 wr ∧ w.heap.size + 1 ≤ wr.heap.size) (fun _ _ i _ => ((a : Int) + 1 - intOf i).toNat)
      case atStart =>
        exact ⟨0, -1, A1, n1, c1, RW, R, Nat.zero_le _, rfl, rfl, rfl, HM.out, hS, M.St.row HI.out (fun h => by rw [← HPS.out] at h; have := HIN.out _ _ h; omega), HLEN.out, hbr, hzr⟩
      case round =>
        clear z0 z1 z2 hzr0 hbr hzr HM HI HLEN hS
        obtain ⟨x, fr, A1, n1, c1, RW, R, hxa, rfl, rfl, rfl, hM, hS, hSt, hlen, hbr, hzr⟩ := hrel
        have z0 := (hbr.cell (p := ⟨w.heap.size, 0, none⟩) (by simp)).trans b0
        have z1 := (hbr.cell (p := ⟨w.heap.size, 1, none⟩) (by simp)).trans b1
        have z2 := (hbr.cell (p := ⟨w.heap.size, 2, none⟩) (by simp)).trans b2
        have hzr0 : w.heap.size < wr.heap.size := by omega
        have hBr := hB1.trans (hbr.mono (by omega))
        have hbig := HBIG.out y hlv
        have hf1 := hSt.f1
        have hf2 : fr < 0 ∨ fr < x := by
          by_cases e : 0 ≤ fr
          · exact .inr (hSt.on e).1
          · left; omega
        have HM := Lib.hid hM
        have HST := Lib.hid hSt
        clear hM hSt
        by_cases hlx : x ≤ a
        · have hlxi : (x : Int) ≤ (a : Int) := by omega
          obtain ⟨WQ, hWQ⟩ : ∃ WQ, WQ = wr := ⟨_, rfl⟩
          subst hWQ
          go_wp2_with fail
          go_loopw [7, 25] (fun sd i wr => ∃ k : Nat, k ≤ L.length ∧ i = .int .i64 k ∧ sd = .bool (dc (SideK L y x k)) ∧ Below WQ.heap.size WQ wr) (fun _ i _ => L.length - (intOf i).toNat)
          case atStart => exact ⟨0, Nat.zero_le _, rfl, by rw [dc_false (sideK_zero L y x)], Below.refl _ _⟩
          case round =>
            obtain ⟨k, hk, rfl, rfl, hb⟩ := hrel
            have hzq := hb.size
            have hBq := hBr.trans (hb.mono hBr.size)
            by_cases hlt : k < L.length
            · obtain ⟨s, hs⟩ : ∃ s, L[k]? = some s := ⟨_, List.getElem?_eq_getElem hlt⟩
              obtain ⟨g, off, rfl, hg, c0, c1', c2⟩ := (hL.below hBq) k s hs
              have hins := hF.within s (List.mem_of_getElem? hs)
              unfold Within at hins
              have k0 : (0 : Int) ≤ (k : Int) := by omega
              have k1 : (k : Int) < (L.length : Int) := by omega
              have hsuc := sideK_succ (y := (y : Int)) (x := (x : Int)) hs
              have hBE := fun o : Obj => hb.alloc hzq o
              by_cases hd : SideK L y x k
              · rw [dc_true hd]
                have hn := Lib.hid (dc_true (hsuc.2 (.inl hd)))
                clear hs hsuc hd hL b0 b1 b2
                go_wp2_with fail
                go_roundw
                case rel => exact ⟨k + 1, by omega, by go_num, by rw [hn.out], hBE _⟩
                case measure => simp [intOf]; omega
              · rw [dc_false hd]
                have hone : dc (SideK L y x (k + 1)) = dc (SideS s y x) := by
                  rw [propext hsuc]
                  by_cases q : SideS s y x
                  · rw [dc_true q, dc_true (.inr q)]
                  · rw [dc_false q, dc_false fun h => h.elim hd q]
                by_cases hy : s.y = (y : Int) ∨ s.y + s.d = (y : Int)
                · have hr : dc (SideS s y x) = inB (x : Int) s.x (s.x + s.d - 1) := by
                    rw [Bool.eq_iff_iff, dc_iff, inB_iff]
                    unfold SideS
                    omega
                  rw [hr] at hone
                  have HN := Lib.hid hone
                  obtain ⟨r, hr'⟩ : ∃ r, inB (x : Int) s.x (s.x + s.d - 1) = r := ⟨_, rfl⟩
                  have CI := l1In_any (x : Int) s.x (s.x + s.d - 1)
                  rw [hr'] at CI
                  have HR := Lib.hid hr'
                  clear hs hsuc hd hL b0 b1 b2 hr hone hr'
                  by_cases hy1' : s.y = (y : Int)
                  · have t1 : (s.y == (y : Int)) = true := by simpa using hy1'
                    have HY := Lib.hid hy1'
                    clear hy hy1'
                    go_wp2_with fail
                    (with_reducible refine (CI _).mono ?_)
                    rintro e w' ⟨rfl, rfl⟩
                    clear CI
                    go_wp2_with fail
                    go_roundw
                    case rel => exact ⟨k + 1, by omega, by go_num, by rw [HN.out, HR.out], hBE _⟩
                    case measure => simp [intOf]; omega
                  · have t1 : (s.y == (y : Int)) = false := by simpa using hy1'
                    have t2 : (s.y + s.d == (y : Int)) = true := by
                      rcases hy with h | h
                      · exact absurd h hy1'
                      · simpa using h
                    clear hy hy1'
                    go_wp2_with fail
                    (with_reducible refine (CI _).mono ?_)
                    rintro e w' ⟨rfl, rfl⟩
                    clear CI
                    go_wp2_with fail
                    go_roundw
                    case rel => exact ⟨k + 1, by omega, by go_num, by rw [HN.out, HR.out], hBE _⟩
                    case measure => simp [intOf]; omega
                · have hr : dc (SideS s y x) = false := dc_false fun h => hy h.1
                  rw [hr] at hone
                  have HN := Lib.hid hone
                  have t1 : (s.y == (y : Int)) = false := by
                    rw [← Bool.not_eq_true]; intro h; exact hy (.inl (by simpa using h))
                  have t2 : (s.y + s.d == (y : Int)) = false := by
                    rw [← Bool.not_eq_true]; intro h; exact hy (.inr (by simpa using h))
                  clear hs hsuc hd hL b0 b1 b2 hr hone hy
                  go_wp2_with fail
                  go_roundw
                  case rel => exact ⟨k + 1, by omega, by go_num, by rw [HN.out], hBE _⟩
                  case measure => simp [intOf]; omega
            · obtain rfl : k = L.length := by omega
              rw [propext (sideK_all L (y : Int) (x : Int))]
              have hS' := hS.keep hb
              have hbr' := hbr.trans (hb.mono hzr)
              have hzr' : w.heap.size + 1 ≤ wr.heap.size := by omega
              have hps : M.Side L (y : Int) (x : Int) = PS (y : Int) (x : Int) := by rw [HPS.out]
              clear z0 z1 z2 hS hbr hb hBq hBr
              by_cases hd : M.Side L (y : Int) (x : Int)
              · rw [dc_true hd]
                have hst := HST.out.step_yes (by omega) (by rw [← hps]; exact hd)
                have HS2 := Lib.hid hst
                clear hst hps hd
                by_cases hf : fr < 0
                · go_wp2_with fail
                  go_roundw
                  case rel =>
                    refine ⟨x + 1, x, A1, n1, c1, RW, R, by omega, by go_num, rfl, rfl, HM.out, hS', ?_, by omega, hbr', hzr'⟩
                    have := HS2.out
                    rw [if_pos hf] at this
                    simpa using this
                  case measure => simp [intOf]; omega
                · have hf' : decide (fr < 0) = false := decide_eq_false hf
                  go_wp2_with fail
                  go_roundw
                  case rel =>
                    refine ⟨x + 1, fr, A1, n1, c1, RW, R, by omega, by go_num, rfl, rfl, HM.out, hS', ?_, by omega, hbr', hzr'⟩
                    have := HS2.out
                    rw [if_neg hf] at this
                    simpa using this
                  case measure => simp [intOf]; omega
              · rw [dc_false hd]
                have hst := HST.out.step_no (by rw [← hps]; exact hd)
                have HS2 := Lib.hid hst
                clear hst hps hd
                by_cases hf : 0 ≤ fr
                · have hf' : decide (0 ≤ fr) = true := decide_eq_true hf
                  have hn1 : n1 = R.length := by
                    rw [hS'.len, ← lists_len, HM.out, lnL_len]
                  have hbl : n1 + 1 ≤ maxLen := by unfold maxLen; omega
                  have hby : (n1 + 1) * 24 ≤ 140737488355328 := by omega
                  go_wp2_with (at_builtin; refine app_list rfl _ _ _ rfl (w.heap.size + 1) 52 j0 (.slice none 0 0) 1 24 Try.underlying37 hj hy0 hy1 hy2 rfl (by decide) (.slice A1 n1 c1) n1 _ rfl ((hS'.outer.alloc _).alloc _) (some ⟨wr.heap.size + 1, 0, none⟩) 1 1 [.slice (some ⟨wr.heap.size, 0, none⟩) 3 3] rfl rfl (.inr ⟨_, rfl, new1' _ _ _ _⟩) (one1 _ rfl) hbl hby (by simp; omega) ?_; intro v' w6 hown6 hgrow hv6)
                  have hB7 : Below (w.heap.size + 1) W1 w6 := ((hbr'.alloc hzr' _).alloc (by simp; omega) _).grown hgrow (by simp; omega) (fun k hk => (hS'.lt (.inl hk)).1)
                  obtain ⟨A7, c7, rfl, hS7⟩ := (hS'.keep (((Below.refl _ _).alloc (Nat.le_refl _) _).alloc (by simp) _)).push ⟨some ⟨wr.heap.size, 0, none⟩, 3, [(y : Int), fr, (x : Int)]⟩ ((World.ownsRow_lit wr #[.int .i64 (y : Int), .int .i64 fr, .int .i64 (x : Int)] 3 hzr' (by unfold maxLen; omega) rfl).alloc _) (fun kk hkk hkb => by have := (hS'.lt hkb).2; simp [Rw.val, Value.ownBlock] at hkk; omega) hown6 hgrow hv6
                  have hz7 := hgrow.size
                  simp only [World.size_alloc] at hz7
                  have HS7 := Lib.hid hS7
                  clear hgrow hown6 hv6 hS' hS7
                  go_wp2_with fail
                  go_roundw
                  case rel =>
                    refine ⟨x + 1, -1, A7, n1 + 1, c7, _, R ++ [⟨y, fr, x⟩], by omega, by go_num, rfl, rfl, ?_, HS7.out, ?_, by simp; omega, hB7, by omega⟩
                    · rw [lists_app, HM.out, lnL_app]; rfl
                    · have := HS2.out
                      rw [if_pos hf] at this
                      simpa using this
                  case measure => simp [intOf]; omega
                · have hf' : decide (0 ≤ fr) = false := decide_eq_false hf
                  go_wp2_with fail
                  go_roundw
                  case rel =>
                    refine ⟨x + 1, -1, A1, n1, c1, RW, R, by omega, by go_num, ?_, rfl, HM.out, hS', ?_, by omega, hbr', hzr'⟩
                    · rw [show fr = -1 by omega]
                    · have := HS2.out
                      rw [if_neg hf] at this
                      simpa using this
                  case measure => simp [intOf]; omega
        · obtain rfl : x = a + 1 := by omega
          have hst := HST.out
          have hno : M.IsLines (M.Pd PS ((y : Int) + 1) 0) R := by
            have hf0 : fr = -1 := by
              by_cases e : 0 ≤ fr
              · exfalso
                have h := (hst.on e).1
                have := (hst.on e).2.1 (a : Int) (by push_cast at h; omega) (by push_cast; omega)
                rw [← HPS.out] at this
                have := HIN.out _ _ this
                omega
              · omega
            refine (hst.no hf0).2.congr fun y' x' => ⟨fun ⟨q1, q2⟩ => ⟨q1, ?_⟩, fun ⟨q1, q2⟩ => ⟨q1, ?_⟩⟩
            · rw [← HPS.out] at q1
              have := HIN.out _ _ q1
              omega
            · rw [← HPS.out] at q1
              have := HIN.out _ _ q1
              push_cast
              omega
          have HNO := Lib.hid hno
          clear hst hno
          go_wp2_with fail
          go_roundw
          case rel => exact ⟨y + 1, A1, n1, c1, RW, R, by omega, by go_num, rfl, HM.out, hS, by simpa using HNO.out, by rw [Nat.succ_mul]; omega, hbr, hzr⟩
          case measure => simp [intOf]; omega
    · obtain rfl : y = b + 1 := by omega
      go_wp2_with fail
      go_ret
      have hI : M.IsLines (M.Side L) R := HI.out.congr fun y' x' => by
        rw [HPS.out]
        refine ⟨fun h => h.1, fun h => ⟨h, ?_⟩⟩
        rw [← HPS.out] at h
        have := HIN.out y' x' h
        push_cast
        omega
      have hlen := HLEN.out
      have hbig := HBIG.out b (Nat.le_refl _)
      rw [Nat.succ_mul] at hlen
      exact ⟨R, hI, by omega, RetSSv.mk HM.out (hS.based (by omega)) (hB1.trans (hbr.mono (by omega)))⟩
end Go.Proofs.Ytnnhgblgbbfmpaa
