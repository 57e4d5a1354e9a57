/- RatioOfRank: the model's; the law. -/
import Derived.Test.YtilneimiedfjnaaRnk
set_option linter.all false
namespace Go.Proofs.Ytilneimiedfjnaa
open Go.RowKit
set_option maxRecDepth 100000 in
set_option maxHeartbeats 8000000 in
theorem specRnk_any (s r : Int) (w : World) : Calls Try.prog 47 #[.int .i64 s, .int .i64 r] w (RetR w (rnkR s r)) := by
  have hm := raMany_any s w
  by_cases h : 1 ≤ s ∧ s ≤ 21
  · obtain ⟨n, hn⟩ : ∃ n : Nat, s = (n : Int) + 1 := ⟨(s - 1).toNat, by omega⟩
    have hn1 : (s - 1).toNat = n := by omega
    have hn20 : n ≤ 20 := by omega
    obtain ⟨C, hC⟩ : ∃ C, 2 ^ n = C := ⟨_, rfl⟩
    have hCi : (2 : Int) ^ n = (C : Int) := by rw [← hC]; simp
    have hCb : C ≤ 1048576 := by rw [← hC]; exact Nat.pow_le_pow_right (by decide) hn20
    have hC1 : 1 ≤ C := by rw [← hC]; exact Nat.two_pow_pos n
    have hp := pow_in hn20
    rw [hCi] at hp
    rw [inB_iff.2 h] at hm
    have HM := Lib.hid hm
    have HP := Lib.hid hp
    have HCi := Lib.hid hCi
    have HPW : wrap64 ((2 : Int) ^ n) = (C : Int) := by rw [hCi]; exact hp
    have HPW1 : wrap64 ((C : Int) - 1) = (C : Int) - 1 := IntWalk.wrap64_in _ (by omega)
    by_cases hr : 0 ≤ r ∧ r ≤ (C : Int) - 1
    · obtain ⟨m, rfl⟩ := Int.eq_ofNat_of_zero_le hr.1
      have hmC : m < 2 ^ n := by omega
      have e0 : rnkR s m = ratW (plcS n m) := by unfold rnkR; rw [hn1, hCi, if_pos ⟨h, by omega, by omega⟩]; rfl
      rw [e0]
      have hG : WordG (wcs (plcS n m)) := plcS_word hn20
      have hpl := fun w => raPlace_any n m w hn20 hmC
      have hrr := fun w => raRatio_any (plcS n m) w hG
      have hi := l1In_any (m : Int) 0 ((C : Int) - 1)
      rw [inB_iff.2 hr] at hi
      obtain ⟨e1, e2, _⟩ := put_yes hG
      have hrat : ratW (plcS n m) = rat2 (putF (wcs (plcS n m))).1 (putF (wcs (plcS n m))).2.1 := by unfold ratW; rw [e1, e2]
      rw [hrat]
      obtain ⟨a, ha⟩ : ∃ a, (putF (wcs (plcS n m))).1 = a := ⟨_, rfl⟩
      obtain ⟨b, hb⟩ : ∃ b, (putF (wcs (plcS n m))).2.1 = b := ⟨_, rfl⟩
      have hrr2 : ∀ w, Calls Try.prog 80 #[.string (plcS n m)] w fun e w' => e = .returned (.tuple #[.int .i64 a, .int .i64 b]) ∧ w = w' := fun w => by rw [← ha, ← hb]; exact hrr w
      rw [ha, hb]
      have hg := fun w => raGood_any a b w
      have HPL := Lib.hid hpl
      have HRR := Lib.hid hrr2
      have HI := Lib.hid hi
      subst hn
      clear h hn1 hCi hC e0 hG hpl hrr hrr2 hi e1 e2 hrat ha hb hm hmC hp hr
      cases eb : ratB a b with
      | true =>
        rw [rat2_yes eb]
        rw [show (inB a 1 1000 && inB b 1 1000) = true from eb] at hg
        have HG := Lib.hid hg
        clear hg eb
        go_enter Try.func47, Try.ntmps47
        go_wp2_with fail
        refine HM.out.mono ?_
        rintro e w' ⟨rfl, rfl⟩
        go_wp2_with fail
        try rw [HPW, HPW1]
        refine (HI.out _).mono ?_
        rintro e w' ⟨rfl, rfl⟩
        go_wp2_with fail
        refine (HPL.out _).mono ?_
        rintro e w' ⟨rfl, rfl⟩
        go_wp2_with fail
        refine (HRR.out _).mono ?_
        rintro e w' ⟨rfl, rfl⟩
        go_wp2_with fail
        refine (HG.out _).mono ?_
        rintro e w' ⟨rfl, rfl⟩
        go_wp2_with fail
        refine bodyPost_ret (v := .tuple #[.int .i64 a, .int .i64 b, .bool true]) (by simp [results, Try.results47, go_sem]) rfl ?_
        exact ⟨rfl, Below.refl _ _⟩
      | false =>
        rw [rat2_no eb]
        rw [show (inB a 1 1000 && inB b 1 1000) = false from eb] at hg
        have HG := Lib.hid hg
        clear hg eb
        go_enter Try.func47, Try.ntmps47
        go_wp2_with fail
        refine HM.out.mono ?_
        rintro e w' ⟨rfl, rfl⟩
        go_wp2_with fail
        try rw [HPW, HPW1]
        refine (HI.out _).mono ?_
        rintro e w' ⟨rfl, rfl⟩
        go_wp2_with fail
        refine (HPL.out _).mono ?_
        rintro e w' ⟨rfl, rfl⟩
        go_wp2_with fail
        refine (HRR.out _).mono ?_
        rintro e w' ⟨rfl, rfl⟩
        go_wp2_with fail
        refine (HG.out _).mono ?_
        rintro e w' ⟨rfl, rfl⟩
        go_wp2_with fail
        refine bodyPost_ret (v := .tuple #[.int .i64 0, .int .i64 0, .bool false]) (by simp [results, Try.results47, go_sem]) rfl ?_
        exact ⟨rfl, Below.refl _ _⟩
    · have e0 : rnkR s r = (0, 0, false) := by unfold rnkR; rw [hn1, hCi, if_neg (fun k => hr ⟨k.2.1, by omega⟩)]
      rw [e0]
      have hi := l1In_any r 0 ((C : Int) - 1)
      have hib : inB r 0 ((C : Int) - 1) = false := by
        cases e : inB r 0 ((C : Int) - 1) with
        | false => rfl
        | true => exact absurd (inB_iff.1 e) hr
      rw [hib] at hi
      have HI := Lib.hid hi
      subst hn
      clear h hn1 hCi hC e0 hi hib hm hp hr
      go_enter Try.func47, Try.ntmps47
      go_wp2_with fail
      refine HM.out.mono ?_
      rintro e w' ⟨rfl, rfl⟩
      go_wp2_with fail
      try rw [HPW, HPW1]
      refine (HI.out _).mono ?_
      rintro e w' ⟨rfl, rfl⟩
      go_wp2_with fail
      refine bodyPost_ret (v := .tuple #[.int .i64 0, .int .i64 0, .bool false]) (by simp [results, Try.results47, go_sem]) rfl ?_
      exact ⟨rfl, Below.refl _ _⟩
  · have e0 : rnkR s r = (0, 0, false) := if_neg (fun k => h k.1)
    rw [e0]
    rw [inB21 h] at hm
    clear h e0
    go_enter Try.func47, Try.ntmps47
    go_wp2_with fail
    refine hm.mono ?_
    rintro e w' ⟨rfl, rfl⟩
    go_wp2_with fail
    refine bodyPost_ret (v := .tuple #[.int .i64 0, .int .i64 0, .bool false]) (by simp [results, Try.results47, go_sem]) rfl ?_
    exact ⟨rfl, Below.refl _ _⟩
set_option maxRecDepth 100000 in
theorem lawRatioOfRank (s r : Int) (w : World) : Calls Try.prog 13 #[.int .i64 s, .int .i64 r] w fun e w' => e = .returned (.bool true) ∧ Below w.heap.size w w' := by
  obtain ⟨⟨x, y, ok⟩, hr⟩ : ∃ q, rnkR s r = q := ⟨_, rfl⟩
  have c1 := fun w => specRnk_any s r w
  have c2 := fun w => implRnk_any s r w
  rw [hr] at c1 c2
  have C1 := Lib.hid c1
  have C2 := Lib.hid c2
  clear c1 c2 hr
  have h1 : (ok != ok) = false := by simp
  have h2 : (x != x) = false := by simp
  have h3 : (y != y) = false := by simp
  go_enter Try.func13, Try.ntmps13
  go_wp2_with fail
  refine (C1.out _).mono ?_
  rintro e w1 ⟨rfl, hb1⟩
  go_wp2_with fail
  refine (C2.out _).mono ?_
  rintro e w2 ⟨rfl, hb2⟩
  go_wp2_with fail
  go_ret
  exact ⟨rfl, hb1.trans (hb2.mono hb1.size)⟩
end Go.Proofs.Ytilneimiedfjnaa
