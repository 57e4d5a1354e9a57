/- The walk of FnExactFirstTurns. -/
import Derived.Test.YtdpbjmdgjhleeaaGen
import Derived.Test.YtdpbjmdgjhleeaaCuP
import Derived.Test.YtdpbjmdgjhleeaaFtR
set_option linter.all false
namespace Go.Proofs.Ytdpbjmdgjhleeaa
open Go.RowKit

set_option maxRecDepth 100000 in
set_option maxHeartbeats 4000000 in
theorem lawFirstTurns (x0 x1 : Int) (w : World) :
    Calls Try.prog 9 #[.int .i64 x0, .int .i64 x1] w fun e w' => e = .returned (.bool true) ∧ Below w.heap.size w w' := by
  have hspec := fun w => specFt_any x0 x1 w
  have himpl := fun w => implFt_any x0 x1 w
  obtain ⟨hF, h36⟩ := ftM_len x0 x1
  unfold RetFs at hspec
  unfold RetFt at himpl
  obtain ⟨ok, hK⟩ : ∃ ok, okL x0 x1 = ok := ⟨_, rfl⟩
  simp only [hK] at hspec himpl
  obtain ⟨F, hFF⟩ : ∃ F, ftM x0 x1 = F := ⟨_, rfl⟩
  rw [hFF] at hF h36
  simp only [hFF] at hspec himpl
  obtain ⟨X, hX⟩ : ∃ X, max x0 x1 = X := ⟨_, rfl⟩
  obtain ⟨Y, hY⟩ : ∃ Y, min x0 x1 = Y := ⟨_, rfl⟩
  simp only [hX, hY] at hspec himpl
  have HS := Lib.hid hspec
  have HI := Lib.hid himpl
  have H36 := Lib.hid h36
  have h1 : (ok != ok) = false := by simp
  clear hspec himpl h36 hK hFF hX hY
  go_enter Try.func9, Try.ntmps9
  go_wp2_with fail
  (with_reducible refine (HS.out _).mono ?_)
  rintro e w2 ⟨A0, c0, Ds, rfl, hmD, hD, hb2⟩
  have HD := Lib.hid hD
  have HMD := Lib.hid hmD
  clear hD hmD
  go_wp2_with fail
  (with_reducible refine (HI.out _).mono ?_)
  rintro e w3 ⟨Ag, cg, Cs, rfl, hmC, hC, hap, hb3⟩
  have HC := Lib.hid hC
  have HMC := Lib.hid hmC
  have HAP := Lib.hid hap
  have hlc : Cs.length ≤ 65536 := by have := congrArg List.length hmC; simp only [List.length_map] at this; omega
  have HX : Hid (∀ x ∈ Cs, x.1.length ≤ 36) := Lib.hid (fun x hx => H36.out x.1 (by rw [← HMC.out]; exact List.mem_map_of_mem hx))
  clear hmC hC hap
  go_wp2_with fail
  (with_reducible refine (eqCutS_same X Y _ _ Ag A0 cg c0 Cs Ds w3 (HMC.out.trans HMD.out.symm) hlc HX.out HC.out (HD.out.keep hb3)).mono ?_)
  rintro e w4 ⟨rfl, hb4⟩
  have hB4 : Below w2.heap.size w2 w4 := hb3.trans (hb4.mono hb3.size)
  have HC4 := Lib.hid (HC.out.keep hb4)
  clear hb4 hb3
  go_wp2_with fail
  (with_reducible refine (markCutS_any X Y w2.heap.size Ag cg Cs 1 w4 hlc HX.out (by decide) (by decide) HC4.out HAP.out).mono ?_)
  rintro e w5 ⟨rfl, hML, hb5⟩
  have HML := Lib.hid hML
  have hB5 := hB4.trans hb5
  obtain ⟨he0, he1⟩ := endO_bd 1 Cs HX.out
  obtain ⟨m, hm⟩ : ∃ m, endO 1 Cs = m := ⟨_, rfl⟩
  have hne : Cs ≠ [] → ∃ g, Ag = some ⟨g, 0, none⟩ := fun hn => by
    obtain ⟨g, rfl⟩ := own_form HC4.out.own (List.length_pos_iff.2 hn)
    exact ⟨g, rfl⟩
  have HNE := Lib.hid hne
  have HE : ∀ V, Below w5.heap.size w5 V → Calls Try.prog 28 #[.slice Ag Cs.length cg, .int .i64 1] V fun e w' => e = .returned (.int .i64 m) ∧ V = w' := fun V hb => by
    rw [← hm]
    refine heldCutS_any X Y w2.heap.size Ag cg Cs 1 V hlc HX.out (by decide) (by decide) (fun hn => ?_)
    obtain ⟨g, e⟩ := HNE.out hn
    exact ⟨g, e, (HML.out g e).keep hb⟩
  rw [hm] at he0 he1 ⊢
  have HHE := Lib.hid HE
  have m0 : ¬ m < 0 := by omega
  have m1 : (m != m) = false := by simp
  clear hML hb5 hB4 hm hne HE
  go_wp2_with fail
  (with_reducible refine (HHE.out w5 (Below.refl _ _)).mono ?_)
  rintro e w6 ⟨rfl, rfl⟩
  go_wp2_with fail
  (with_reducible refine (HI.out _).mono ?_)
  rintro e w7 ⟨Ah, ch, Es, rfl, hmE, hE, _, hb7⟩
  have hle : Es.length ≤ 65536 := by have := congrArg List.length hmE; simp only [List.length_map] at this; omega
  have HXE : Hid (∀ x ∈ Es, x.1.length ≤ 36) := Lib.hid (fun x hx => H36.out x.1 (by rw [← hmE]; exact List.mem_map_of_mem hx))
  have HE7 := Lib.hid hE
  have HME := Lib.hid hmE
  have hB7 := hB5.trans (hb7.mono hB5.size)
  clear hE hmE
  go_wp2_with fail
  (with_reducible refine (eqCutS_same X Y _ _ Ah A0 ch c0 Es Ds w7 (HME.out.trans HMD.out.symm) hle HXE.out HE7.out (HD.out.keep hB7)).mono ?_)
  rintro e w8 ⟨rfl, hb8⟩
  have hb58 := hb7.trans (hb8.mono hb7.size)
  have hB8 := hB7.trans (hb8.mono hB7.size)
  clear hB7 hb7 hb8 hB5
  go_wp2_with fail
  (with_reducible refine (HHE.out w8 hb58).mono ?_)
  rintro e w9 ⟨rfl, rfl⟩
  go_wp2_with fail
  go_ret
  exact ⟨rfl, hb2.trans (hB8.mono hb2.size)⟩
end Go.Proofs.Ytdpbjmdgjhleeaa
