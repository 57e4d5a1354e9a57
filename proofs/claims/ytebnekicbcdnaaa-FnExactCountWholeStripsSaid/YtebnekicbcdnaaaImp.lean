/- Contracts of the program's own test of a cut. -/
import Derived.Test.YtebnekicbcdnaaaConv2
set_option linter.all false
namespace Go.Proofs.Ytebnekicbcdnaaa
open Go.RowKit

def cmpC (x y x' y' : Int) : Int := orI (cmpI y y') (cmpI x x')
theorem cmpC_lt {x y x' y' : Int} : cmpC x y x' y' < 0 ↔ Less x y x' y' := by
  unfold cmpC orI cmpI Less
  (repeat' split) <;> omega

theorem compareCorners_any (x y d x' y' d' : Int) (w : World) :
    Calls Try.prog 115 #[.agg #[.int .i64 x, .int .i64 y, .int .i64 d], .agg #[.int .i64 x', .int .i64 y', .int .i64 d']] w fun e w' =>
      e = .returned (.int .i64 (cmpC x y x' y')) ∧ Below w.heap.size w w' := by
  go_enter Try.func115, Try.ntmps115
  go_wp2_with fail
  go_region_held3 (fun w' => w'.cell? ⟨w.heap.size, 0, none⟩ = some (.int .i64 x) ∧ w'.cell? ⟨w.heap.size, 1, none⟩ = some (.int .i64 y) ∧ w'.cell? ⟨w.heap.size + 1, 0, none⟩ = some (.int .i64 x') ∧ w'.cell? ⟨w.heap.size + 1, 1, none⟩ = some (.int .i64 y'))
    (simp [go_sem, World.cell?_alloc_past])
    (first
      | (go_at_call 123; refine (compare_any _ _ _).mono ?_; rintro e w' ⟨rfl, rfl⟩)
      | (go_at_call 122; refine (or_any (cmpI y y') (cmpI x x') _ _ (by simp [go_sem]) (by simp [go_sem])).mono ?_; rintro e w' ⟨rfl, rfl⟩))
  go_wp2_with fail
  go_ret
  exact ⟨rfl, by repeat (first | exact Below.refl _ _ | refine Below.alloc ?_ (by simp <;> omega) _ | refine Below.drew ?_)⟩

def Sorted (L : List Sq) : Prop := ∀ i s t, L[i]? = some s → L[i + 1]? = some t → ¬ Less t.x t.y s.x s.y

theorem isSorted_any (A : Option Addr) (n c : Nat) (L : List Sq) (w : World) (hl : L.length = n) (hn : n ≤ 1048576) (hL : SqsAt w w.heap.size A L) :
    Calls Try.prog 114 #[.slice A n c, .func (.func 115) #[] #[]] w (RetB w (Sorted L)) := by
  obtain ⟨g, hg⟩ : ∃ g, g = w.heap.size := ⟨_, rfl⟩
  have hBg := Lib.hid hg
  rw [← hg] at hL
  clear hg
  go_enter Try.func114, Try.ntmps114
  go_wp2_with fail
  go_loopw [5] (fun i wr => ∃ k : Int, -1 ≤ k ∧ k ≤ (n : Int) - 1 ∧ i = .int .i64 k ∧ Below g w wr ∧ (∀ (j : Nat) s t, k ≤ j → L[j]? = some s → L[j + 1]? = some t → ¬ Less t.x t.y s.x s.y)) (fun i _ => (intOf i + 1).toNat)
  case atStart =>
    refine ⟨(n : Int) - 1, by omega, by omega, rfl, Below.refl _ _, ?_⟩
    intro j s t hj hs ht
    rw [List.getElem?_eq_none (by omega)] at ht
    cases ht
  case round =>
    obtain ⟨k, hk0, hk, rfl, hbr, hdone⟩ := hrel
    by_cases hlt : 0 < k
    · obtain ⟨m, rfl⟩ : ∃ m : Nat, k = (m : Int) + 1 := ⟨(k - 1).toNat, by omega⟩
      obtain ⟨t, ht⟩ : ∃ s, L[m + 1]? = some s := ⟨_, List.getElem?_eq_getElem (by omega)⟩
      obtain ⟨s, hs⟩ : ∃ s, L[m]? = some s := ⟨_, List.getElem?_eq_getElem (by omega)⟩
      have hLw := hL.below hbr
      clear hL
      obtain ⟨b, off, rfl, hb, d0, d1, d2⟩ := hLw m s hs
      obtain ⟨b', off', he, hb', c0, c1, c2⟩ := hLw (m + 1) t ht
      simp only [Option.some.injEq, Addr.mk.injEq] at he
      obtain ⟨rfl, rfl, _⟩ := he
      have HT := Lib.hid ht
      have HS := Lib.hid hs
      have HD := Lib.hid hdone
      have HLen := Lib.hid hl
      clear hLw hs ht hl hdone
      have hsz : g ≤ wr.heap.size := by have := hbr.size; rw [hBg.out]; omega
      have C0 : ∀ u : Later g wr, u.val.cell? ⟨b, off + (m + 1) * 3, none⟩ = some (.int .i64 t.x) := fun u => (u.ok.cell (p := ⟨b, _, none⟩) hb).trans c0
      have C1 : ∀ u : Later g wr, u.val.cell? ⟨b, off + (m + 1) * 3 + 1, none⟩ = some (.int .i64 t.y) := fun u => (u.ok.cell (p := ⟨b, _, none⟩) hb).trans c1
      have C2 : ∀ u : Later g wr, u.val.cell? ⟨b, off + (m + 1) * 3 + 2, none⟩ = some (.int .i64 t.d) := fun u => (u.ok.cell (p := ⟨b, _, none⟩) hb).trans c2
      have D0 : ∀ u : Later g wr, u.val.cell? ⟨b, off + m * 3, none⟩ = some (.int .i64 s.x) := fun u => (u.ok.cell (p := ⟨b, _, none⟩) hb).trans d0
      have D1 : ∀ u : Later g wr, u.val.cell? ⟨b, off + m * 3 + 1, none⟩ = some (.int .i64 s.y) := fun u => (u.ok.cell (p := ⟨b, _, none⟩) hb).trans d1
      have D2 : ∀ u : Later g wr, u.val.cell? ⟨b, off + m * 3 + 2, none⟩ = some (.int .i64 s.d) := fun u => (u.ok.cell (p := ⟨b, _, none⟩) hb).trans d2
      have k0 : (0 : Int) ≤ (m : Int) + 1 := by omega
      have k1 : (m : Int) + 1 < (n : Int) := by omega
      go_wp2_with fail
      refine wp_region_sub g (by kernel_rfl) (by kernel_rfl) ?_
      repeat (first | go_big_quiet_step ((go_at_call 115; exact sub_of _ hsz (compareCorners_any t.x t.y t.d s.x s.y s.d _))) | quiet_step ((go_at_call 115; exact sub_of _ hsz (compareCorners_any t.x t.y t.d s.x s.y s.d _))))
      refine wpQuiet_nil ?_
      rintro _ ⟨⟨w2, hb2⟩, rfl⟩
      go_wp2_with fail
      · have hc : cmpC t.x t.y s.x s.y < 0 := by assumption
        go_ret
        refine ⟨ret_dc ?_, by rw [← hBg.out]; exact hbr.trans hb2⟩
        simp only [Bool.false_eq_true, false_iff]
        intro hS
        exact hS m s t HS.out HT.out (cmpC_lt.1 hc)
      · have hc : 0 ≤ cmpC t.x t.y s.x s.y := by assumption
        go_roundw
        case rel =>
          refine ⟨m, by omega, by omega, rfl, hbr.trans hb2, ?_⟩
          intro j s' t' hj hs' ht'
          by_cases e : j = m
          · subst e
            obtain rfl := Option.some.inj (HS.out.symm.trans hs')
            obtain rfl := Option.some.inj (HT.out.symm.trans ht')
            intro hL
            have := cmpC_lt.2 hL
            omega
          · exact HD.out j s' t' (by omega) hs' ht'
        case measure => simp [intOf]; omega
    · go_wp2_with fail
      go_ret
      refine ⟨ret_dc ?_, by rw [← hBg.out]; exact hbr⟩
      simp only [true_iff]
      intro j s t hs ht
      exact hdone j s t (by omega) hs ht

/-- Two squares have a common cell. -/
def Over (s q : Sq) : Prop := s.x < q.x + q.d ∧ q.x < s.x + s.d ∧ s.y < q.y + q.d ∧ q.y < s.y + s.d
/-- A square whose numbers are small. -/
def Fine (s : Sq) : Prop := 0 ≤ s.x ∧ s.x ≤ 1000000 ∧ 0 ≤ s.y ∧ s.y ≤ 1000000 ∧ 1 ≤ s.d ∧ s.d ≤ 1000000
theorem over_lap {s q : Sq} (hs : 1 ≤ s.d) (hq : 1 ≤ q.d) : (0 < lapX s.x s.d q.x q.d ∧ 0 < lapX s.y s.d q.y q.d) ↔ Over s q := by
  unfold lapX Over
  omega

theorem overlapsAny_any (s : Sq) (A : Option Addr) (n c : Nat) (L : List Sq) (w : World) (hl : L.length = n) (hn : n ≤ 1048576) (_hc : n ≤ c) (hL : SqsAt w w.heap.size A L) (hs : Fine s) (hf : ∀ q ∈ L, Fine q) :
    Calls Try.prog 113 #[.agg #[.int .i64 s.x, .int .i64 s.y, .int .i64 s.d], .slice A n c] w (RetB w (∃ q ∈ L, Over s q)) := by
  obtain ⟨s0, s1, s2, s3, s4, s5⟩ := hs
  obtain ⟨g, hg⟩ : ∃ g, g = w.heap.size := ⟨_, rfl⟩
  have hBg := Lib.hid hg
  rw [← hg] at hL
  clear hg
  go_enter Try.func113, Try.ntmps113
  go_wp2_with fail
  go_loopw [11] (fun i wr => ∃ k : Nat, k ≤ n ∧ i = .int .i64 k ∧ Below g w wr ∧ w.heap.size < wr.heap.size ∧ wr.cell? ⟨w.heap.size, 0, none⟩ = some (.int .i64 s.x) ∧ wr.cell? ⟨w.heap.size, 1, none⟩ = some (.int .i64 s.y) ∧ wr.cell? ⟨w.heap.size, 2, none⟩ = some (.int .i64 s.d) ∧ (∀ (j : Nat) q, j < k → L[j]? = some q → ¬ Over s q)) (fun i _ => n - (intOf i).toNat)
  case atStart =>
    refine ⟨0, Nat.zero_le _, rfl, ?_, ?_, by simp, by simp, by simp, fun j q h => by omega⟩
    · exact (Below.refl _ _).alloc (by rw [hBg.out]; exact Nat.le_refl _) _
    · simp
  case round =>
    obtain ⟨k, hk, rfl, hbr, hgw, e0, e1, e2, hdone⟩ := hrel
    by_cases hlt : k < n
    · obtain ⟨q, hq⟩ : ∃ s, L[k]? = some s := ⟨_, List.getElem?_eq_getElem (by omega)⟩
      obtain ⟨q0, q1, q2, q3, q4, q5⟩ := hf q (List.mem_of_getElem? hq)
      have hLw := hL.below hbr
      clear hL hf
      obtain ⟨b, off, rfl, hb, c0, c1, c2⟩ := hLw k q hq
      have HQ := Lib.hid hq
      have HD := Lib.hid hdone
      have HLen := Lib.hid hl
      clear hLw hq hl hdone
      have hgl : g ≤ wr.heap.size := by rw [hBg.out]; omega
      go_wp2_with fail
      refine (commonLengths_any s.x s.y s.d q.x q.y q.d (by omega) (by omega) (by omega) (by omega) (by omega) (by omega) (by omega) (by omega) (by omega) (by omega) (by omega) (by omega) _).mono ?_
      rintro e w2 ⟨rfl, hb2⟩
      obtain ⟨hc, hf⟩ := bcell hb2
      have hz := hb2.size
      simp only [World.size_alloc] at hc hf hz
      have E0 := (hc w.heap.size 0 (by omega)).trans ((World.cell?_alloc_lt wr _ ⟨w.heap.size, 0, none⟩ hgw).trans e0)
      have E1 := (hc w.heap.size 1 (by omega)).trans ((World.cell?_alloc_lt wr _ ⟨w.heap.size, 1, none⟩ hgw).trans e1)
      have E2 := (hc w.heap.size 2 (by omega)).trans ((World.cell?_alloc_lt wr _ ⟨w.heap.size, 2, none⟩ hgw).trans e2)
      have hB2 : Below g w w2 := (hbr.alloc hgl _).trans (hb2.mono (by simp <;> omega))
      have hZ : w.heap.size < w2.heap.size := by omega
      clear hc hf hz hb2
      go_wp2_with fail
      · have h1 : 0 < lapX s.x s.d q.x q.d := by assumption
        have h2 : 0 < lapX s.y s.d q.y q.d := by assumption
        go_ret
        refine ⟨ret_dc ?_, by rw [← hBg.out]; exact hB2⟩
        simp only [true_iff]
        exact ⟨q, List.mem_of_getElem? HQ.out, (over_lap s4 q4).1 ⟨h1, h2⟩⟩
      · have h2 : lapX s.y s.d q.y q.d ≤ 0 := by assumption
        have hno : ¬ Over s q := fun h => by have := ((over_lap s4 q4).2 h).2; omega
        go_roundw
        case rel =>
          refine ⟨k + 1, by omega, by go_num, hB2, hZ, E0, E1, E2, fun j q' hj hq' => ?_⟩
          by_cases e : j = k
          · subst e
            obtain rfl := Option.some.inj (HQ.out.symm.trans hq')
            exact hno
          · exact HD.out j q' (by omega) hq'
        case measure => simp [intOf]; omega
      · have h1 : ¬ 0 < lapX s.x s.d q.x q.d := by assumption
        have hno : ¬ Over s q := fun h => h1 ((over_lap s4 q4).2 h).1
        go_roundw
        case rel =>
          refine ⟨k + 1, by omega, by go_num, hB2, hZ, E0, E1, E2, fun j q' hj hq' => ?_⟩
          by_cases e : j = k
          · subst e
            obtain rfl := Option.some.inj (HQ.out.symm.trans hq')
            exact hno
          · exact HD.out j q' (by omega) hq'
        case measure => simp [intOf]; omega
    · go_wp2_with fail
      go_ret
      refine ⟨ret_dc ?_, by rw [← hBg.out]; exact hbr⟩
      simp only [Bool.false_eq_true, false_iff]
      rintro ⟨q, hq, ho⟩
      obtain ⟨j, hj⟩ := List.mem_iff_getElem?.1 hq
      have hjl : j < L.length := (List.getElem?_eq_some_iff.1 hj).1
      exact hdone j q (by omega) hj ho
end Go.Proofs.Ytebnekicbcdnaaa
