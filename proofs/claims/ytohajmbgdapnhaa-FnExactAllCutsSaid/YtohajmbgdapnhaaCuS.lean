/- Lists of cuts in laws: eqCutS. -/
import Derived.Test.YtohajmbgdapnhaaCoe
import Derived.Test.YtohajmbgdapnhaaConv2
import Derived.BigQuiet
import Derived.Deep.QuietTactic
set_option linter.all false
namespace Go.Proofs.Ytohajmbgdapnhaa
open Go.RowKit

set_option maxRecDepth 100000 in
set_option maxHeartbeats 4000000 in
theorem eqCutS_same (W H : Int) (n0 n0' : Nat) (A A' : Option Addr) (c c' : Nat) (Cs Ds : List CV) (w : World) (hm : Cs.map (·.1) = Ds.map (·.1)) (hn : Cs.length ≤ 65536) (hs36 : ∀ x ∈ Cs, x.1.length ≤ 36)
    (hL : CL n0 W H Cs (.slice A Cs.length c) w) (hL' : CL n0' W H Ds (.slice A' Ds.length c') w) :
    Calls Try.prog 17 #[.slice A Cs.length c, .slice A' Ds.length c'] w fun e w' => e = .returned (.bool true) ∧ Below w.heap.size w w' := by
  have hlen : Cs.length = Ds.length := by have := congrArg List.length hm; simpa using this
  obtain ⟨n, hnn⟩ : ∃ n, Cs.length = n := ⟨_, rfl⟩
  have hdn : Ds.length = n := by omega
  obtain ⟨g, hg⟩ : ∃ g, g = w.heap.size := ⟨_, rfl⟩
  have hBg := Lib.hid hg
  have HL := Lib.hid hL
  have HL' := Lib.hid hL'
  have HM := Lib.hid hm
  have HNN := Lib.hid hnn
  have HDN := Lib.hid hdn
  rw [hnn] at hn ⊢
  rw [hdn]
  clear hg hL hL' hm hlen hnn hdn
  go_enter Try.func17, Try.ntmps17
  go_wp2_with fail
  go_loopw [5] (fun i wr => ∃ k : Nat, k ≤ n ∧ i = .int .i64 k ∧ Below g w wr) (fun i _ => n - (intOf i).toNat)
  case atStart => exact ⟨0, Nat.zero_le _, rfl, Below.refl _ _⟩
  case round =>
    obtain ⟨k, hk, rfl, hbr⟩ := hrel
    by_cases hlt : k < n
    · obtain ⟨x, hx⟩ : ∃ x, Cs[k]? = some x := ⟨_, List.getElem?_eq_getElem (by rw [HNN.out]; exact hlt)⟩
      obtain ⟨y, hy⟩ : ∃ y, Ds[k]? = some y := ⟨_, List.getElem?_eq_getElem (by rw [HDN.out]; exact hlt)⟩
      have hxy : x.1 = y.1 := by
        have := congrArg (·[k]?) HM.out
        simp only [List.getElem?_map, hx, hy, Option.map_some, Option.some.injEq] at this
        exact this
      have hxm := List.mem_of_getElem? hx
      have hx36 := hs36 x hxm
      obtain ⟨b, rfl⟩ := own_form HL.out.own (show 0 < Cs.length by rw [HNN.out]; omega)
      obtain ⟨b', rfl⟩ := own_form HL'.out.own (show 0 < Ds.length by rw [HDN.out]; omega)
      have hb : b < g := by rw [hBg.out]; exact (own_lt HL.out.own).2
      have hb' : b' < g := by rw [hBg.out]; exact (own_lt HL'.out.own).2
      obtain ⟨d0, d1, d2⟩ := HL.out.at hx
      obtain ⟨f0, f1, f2⟩ := HL'.out.at hy
      have ho1 := HL.out.sq x hxm
      have ho2 := HL'.out.sq y (List.mem_of_getElem? hy)
      rw [← hxy] at f2 ho2
      have hsz : g ≤ wr.heap.size := by have := hbr.size; rw [hBg.out]; omega
      have C : ∀ {bb o : Nat} {v : Value}, bb < g → w.cell? ⟨bb, o, none⟩ = some v → ∀ u : Later g wr, u.val.cell? ⟨bb, o, none⟩ = some v := fun hbb h u => ((hbr.trans u.ok).cell (p := ⟨_, _, none⟩) hbb).trans h
      have C0 := C hb d0
      have C1 := C hb d1
      have C2 := C hb d2
      have D0 := C hb' f0
      have D1 := C hb' f1
      have D2 := C hb' f2
      have q1 : SqsAt w g x.2.1 x.1 := by rw [hBg.out]; exact sqs_of_own ho1
      have q2 : SqsAt w g y.2.1 x.1 := by rw [hBg.out]; exact sqs_of_own ho2
      have HC := fun u : Later g wr => eqCut_same W H x.2.1 y.2.1 x.1.length x.2.2 y.2.2 x.1 u.val rfl (by omega) (own_cap ho1) (own_cap ho2) ((q1.below (hbr.trans u.ok)).mono (Nat.le_trans hsz u.ok.size)) ((q2.below (hbr.trans u.ok)).mono (Nat.le_trans hsz u.ok.size))
      have k0 : (0 : Int) ≤ (k : Int) := by omega
      have k1 : (k : Int) < (n : Int) := by omega
      have HHC := Lib.hid HC
      clear d0 d1 d2 f0 f1 f2 ho1 ho2 q1 q2 HC hxm hx hy hxy C
      go_wp2_with fail
      refine wp_region_sub g (by kernel_rfl) (by kernel_rfl) ?_
      repeat (first | go_big_quiet_step ((go_at_call 22; exact sub_of _ hsz (HHC.out _))) | quiet_step ((go_at_call 22; exact sub_of _ hsz (HHC.out _))))
      refine wpQuiet_nil ?_
      rintro _ ⟨⟨w2, hb2⟩, rfl⟩
      clear C0 C1 C2 D0 D1 D2
      go_wp2_with fail
      go_roundw
      case rel => exact ⟨k + 1, by omega, by go_num, hbr.trans hb2⟩
      case measure => simp [intOf]; omega
    · go_wp2_with fail
      go_ret
      exact ⟨rfl, by rw [← hBg.out]; exact hbr⟩
end Go.Proofs.Ytohajmbgdapnhaa
