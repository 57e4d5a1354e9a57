/- RatioOfWord: the program's and the model's. -/
import Derived.Test.YtlfikjjdhmaemaaPutM
set_option linter.all false
namespace Go.Proofs.Ytlfikjjdhmaemaa
open Go.RowKit

theorem isRatio_any (a b : Int) (w : World) : Calls Try.prog 112 #[.int .i64 a, .int .i64 b] w fun e w' => e = .returned (.bool (inB a 1 1000 && inB b 1 1000)) ∧ w = w' := by
  go_enter Try.func112, Try.ntmps112
  go_wp2_with fail
  refine (areUpTo_any _ _ _ _).mono ?_
  rintro e w' ⟨rfl, rfl⟩
  go_wp2_with fail
  go_ret
  exact ⟨rfl, rfl⟩
theorem raGood_any (a b : Int) (w : World) : Calls Try.prog 81 #[.int .i64 a, .int .i64 b] w fun e w' => e = .returned (.bool (inB a 1 1000 && inB b 1 1000)) ∧ w = w' := by
  cases e1 : inB a 1 1000 with
  | true =>
    cases e2 : inB b 1 1000 with
    | true =>
      go_enter Try.func81, Try.ntmps81
      go_wp2_with fail
      refine (l1In_any _ _ _ _).mono ?_
      rw [e1]
      rintro e w' ⟨rfl, rfl⟩
      go_wp2_with fail
      refine (l1In_any _ _ _ _).mono ?_
      rw [e2]
      rintro e w' ⟨rfl, rfl⟩
      go_wp2_with fail
      go_ret
      exact ⟨rfl, rfl⟩
    | false =>
      go_enter Try.func81, Try.ntmps81
      go_wp2_with fail
      refine (l1In_any _ _ _ _).mono ?_
      rw [e1]
      rintro e w' ⟨rfl, rfl⟩
      go_wp2_with fail
      refine (l1In_any _ _ _ _).mono ?_
      rw [e2]
      rintro e w' ⟨rfl, rfl⟩
      go_wp2_with fail
      go_ret
      exact ⟨rfl, rfl⟩
  | false =>
    go_enter Try.func81, Try.ntmps81
    go_wp2_with fail
    refine (l1In_any _ _ _ _).mono ?_
    rw [e1]
    rintro e w' ⟨rfl, rfl⟩
    go_wp2_with fail
    go_ret
    exact ⟨rfl, rfl⟩
def ratB (a b : Int) : Bool := inB a 1 1000 && inB b 1 1000
def rat2 (a b : Int) : Int × Int × Bool := if ratB a b then (a, b, true) else (0, 0, false)
theorem rat2_yes {a b : Int} (h : ratB a b = true) : rat2 a b = (a, b, true) := by simp [rat2, h]
theorem rat2_no {a b : Int} (h : ratB a b = false) : rat2 a b = (0, 0, false) := by simp [rat2, h]
theorem ratioOrNone_any (a b : Int) (w : World) : Calls Try.prog 83 #[.int .i64 a, .int .i64 b] w fun e w' => e = .returned (.tuple #[.int .i64 (rat2 a b).1, .int .i64 (rat2 a b).2.1, .bool (rat2 a b).2.2]) ∧ w = w' := by
  have h := isRatio_any a b w
  cases e1 : ratB a b with
  | true =>
    rw [rat2_yes e1]
    unfold ratB at e1
    rw [e1] at h
    go_enter Try.func83, Try.ntmps83
    go_wp2_with fail
    refine h.mono ?_
    rintro e w' ⟨rfl, rfl⟩
    go_wp2_with fail
    refine bodyPost_ret (v := .tuple #[.int .i64 a, .int .i64 b, .bool true]) (by simp [results, Try.results83, go_sem]) rfl ?_
    exact ⟨rfl, rfl⟩
  | false =>
    rw [rat2_no e1]
    unfold ratB at e1
    rw [e1] at h
    go_enter Try.func83, Try.ntmps83
    go_wp2_with fail
    refine h.mono ?_
    rintro e w' ⟨rfl, rfl⟩
    go_wp2_with fail
    refine bodyPost_ret (v := .tuple #[.int .i64 0, .int .i64 0, .bool false]) (by simp [results, Try.results83, go_sem]) rfl ?_
    exact ⟨rfl, rfl⟩
noncomputable def ratW (s : ByteArray) : Int × Int × Bool := rat2 (putA s) (putB s)
def RetR (w : World) (r : Int × Int × Bool) (e : Ending) (w' : World) : Prop := e = .returned (.tuple #[.int .i64 r.1, .int .i64 r.2.1, .bool r.2.2]) ∧ Below w.heap.size w w'
theorem implRatioW_any (s : ByteArray) (w : World) (hs : s.size ≤ 1048576) : Calls Try.prog 37 #[.string s] w (RetR w (ratW s)) := by
  obtain ⟨r, hr⟩ : ∃ r, ratW s = r := ⟨_, rfl⟩
  have H := Lib.hid hr
  rw [hr]
  clear hr
  go_enter Try.func37, Try.ntmps37
  go_wp2_with fail
  refine (putOn_any s _ hs).mono ?_
  rintro e w1 ⟨A, c, rfl, ho, hb1⟩
  have hb2 : Below w.heap.size w (w1.alloc (.cells #[.int .i64 (putA s), .int .i64 (putB s), .slice A (putQ s).length c] 29)) := hb1.alloc hb1.size _
  clear ho
  go_wp2_with fail
  refine (ratioOrNone_any _ _ _).mono ?_
  rw [show rat2 (putA s) (putB s) = r from H.out]
  rintro e w' ⟨rfl, rfl⟩
  go_wp2_with fail
  refine bodyPost_ret (v := .tuple #[.int .i64 r.1, .int .i64 r.2.1, .bool r.2.2]) (by simp [results, Try.results37, go_sem]) rfl ?_
  exact ⟨rfl, hb2⟩
theorem put_yes {s : ByteArray} (h : WordG (wcs s)) : putA s = (putF (wcs s)).1 ∧ putB s = (putF (wcs s)).2.1 ∧ putQ s = (putF (wcs s)).2.2 := by
  unfold putA putB putQ
  rw [dc_true h]
  exact ⟨rfl, rfl, rfl⟩
theorem put_no {s : ByteArray} (h : ¬ WordG (wcs s)) : putA s = 0 ∧ putB s = 0 ∧ putQ s = [] := by
  unfold putA putB putQ
  rw [dc_false h]
  exact ⟨rfl, rfl, rfl⟩
theorem specRatioW_any (s : ByteArray) (w : World) (hs : s.size ≤ 1048576) : Calls Try.prog 36 #[.string s] w (RetR w (ratW s)) := by
  have hw := raWord_any s w hs
  by_cases h : WordG (wcs s)
  · have hr := raRatio_any s w h
    obtain ⟨e1, e2, _⟩ := put_yes h
    rw [← e1, ← e2] at hr
    rw [dc_true h] at hw
    have HR := Lib.hid hr
    have hg := raGood_any (putA s) (putB s) w
    unfold ratW
    clear hr e1 e2
    generalize putA s = a at *
    generalize putB s = b at *
    cases eb : ratB a b with
    | true =>
      rw [rat2_yes eb]
      rw [show (inB a 1 1000 && inB b 1 1000) = true from eb] at hg
      go_enter Try.func36, Try.ntmps36
      go_wp2_with fail
      refine hw.mono ?_
      rintro e w' ⟨rfl, rfl⟩
      go_wp2_with fail
      refine HR.out.mono ?_
      rintro e w' ⟨rfl, rfl⟩
      go_wp2_with fail
      refine hg.mono ?_
      rintro e w' ⟨rfl, rfl⟩
      go_wp2_with fail
      refine bodyPost_ret (v := .tuple #[.int .i64 a, .int .i64 b, .bool true]) (by simp [results, Try.results36, go_sem]) rfl ?_
      exact ⟨rfl, Below.refl _ _⟩
    | false =>
      rw [rat2_no eb]
      rw [show (inB a 1 1000 && inB b 1 1000) = false from eb] at hg
      go_enter Try.func36, Try.ntmps36
      go_wp2_with fail
      refine hw.mono ?_
      rintro e w' ⟨rfl, rfl⟩
      go_wp2_with fail
      refine HR.out.mono ?_
      rintro e w' ⟨rfl, rfl⟩
      go_wp2_with fail
      refine hg.mono ?_
      rintro e w' ⟨rfl, rfl⟩
      go_wp2_with fail
      refine bodyPost_ret (v := .tuple #[.int .i64 0, .int .i64 0, .bool false]) (by simp [results, Try.results36, go_sem]) rfl ?_
      exact ⟨rfl, Below.refl _ _⟩
  · obtain ⟨e1, e2, _⟩ := put_no h
    have e3 : ratW s = (0, 0, false) := by unfold ratW; rw [e1, e2]; rfl
    rw [e3]
    rw [dc_false h] at hw
    clear e1 e2 e3
    go_enter Try.func36, Try.ntmps36
    go_wp2_with fail
    refine hw.mono ?_
    rintro e w' ⟨rfl, rfl⟩
    go_wp2_with fail
    refine bodyPost_ret (v := .tuple #[.int .i64 0, .int .i64 0, .bool false]) (by simp [results, Try.results36, go_sem]) rfl ?_
    exact ⟨rfl, Below.refl _ _⟩
end Go.Proofs.Ytlfikjjdhmaemaa
