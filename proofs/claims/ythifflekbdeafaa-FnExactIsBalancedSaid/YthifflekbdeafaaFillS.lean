/- Contract of the model's CutOfSides. -/
import Derived.Test.YthifflekbdeafaaFill
namespace Go.Proofs.Ythifflekbdeafaa
open Go.RowKit

set_option maxRecDepth 100000 in
set_option maxHeartbeats 2000000 in
theorem l1All_any (A : Option Addr) (n c : Nat) (d : List Int) (lo hi : Int) (w : World) (hl : d.length = n) (hn : n ≤ 1048576) (hd : IntsAt w w.heap.size A d) :
    Calls Try.prog 99 #[.slice A n c, .int .i64 lo, .int .i64 hi] w (RetB w (∀ s ∈ d, lo ≤ s ∧ s ≤ hi)) := by
  subst hl
  go_enter Try.func99, Try.ntmps99
  go_wp2_with fail
  go_loopw [11] (fun i wr => ∃ k : Nat, k ≤ d.length ∧ i = .int .i64 k ∧ Below w.heap.size w wr ∧ ∀ (j : Nat) s, j < k → d[j]? = some s → lo ≤ s ∧ s ≤ hi) (fun i _ => d.length - (intOf i).toNat)
  case atStart => exact ⟨0, Nat.zero_le _, rfl, Below.refl _ _, fun j s hj => by omega⟩
  case round =>
    obtain ⟨k, hk, rfl, hbr, hin⟩ := hrel
    by_cases hlt : k < d.length
    · obtain ⟨s, hs⟩ : ∃ s, d[k]? = some s := ⟨_, List.getElem?_eq_getElem hlt⟩
      obtain ⟨b, off, rfl, hb, d0⟩ := hd k s hs
      have d0r : wr.cell? ⟨b, off + k, none⟩ = some (.int .i64 s) := (hbr.cell (p := ⟨b, _, none⟩) hb).trans d0
      have k0 : (0 : Int) ≤ (k : Int) := by omega
      have k1 : (k : Int) < (d.length : Int) := by omega
      have HS := Lib.hid hs
      have HI := Lib.hid hin
      clear hs hin d0 hd
      cases hok : inB s lo hi
      · have HK := Lib.hid hok
        clear hok
        go_wp2_with fail
        refine (l1In_any _ _ _ _).mono ?_
        rw [HK.out]
        rintro e w' ⟨rfl, rfl⟩
        go_wp2_with fail
        go_ret
        refine RetB.mk (p := ∀ s ∈ d, lo ≤ s ∧ s ≤ hi) ⟨fun e => by simp at e, fun h => ?_⟩ hbr
        have := inB_iff.2 (h s (List.mem_of_getElem? HS.out))
        rw [HK.out] at this
        cases this
      · have HK := Lib.hid hok
        clear hok
        go_wp2_with fail
        refine (l1In_any _ _ _ _).mono ?_
        rw [HK.out]
        rintro e w' ⟨rfl, rfl⟩
        go_wp2_with fail
        go_roundw
        case rel =>
          refine ⟨k + 1, by omega, by go_num, hbr, fun j q hj hq => ?_⟩
          by_cases e : j = k
          · subst e
            obtain rfl := Option.some.inj (HS.out.symm.trans hq)
            exact inB_iff.1 HK.out
          · exact HI.out j q (by omega) hq
        case measure => simp [intOf]; omega
    · obtain rfl : k = d.length := by omega
      clear hd
      have HI := Lib.hid hin
      clear hin
      go_wp2_with fail
      go_ret
      refine RetB.mk (p := ∀ s ∈ d, lo ≤ s ∧ s ≤ hi) ⟨fun _ s hs => ?_, fun _ => rfl⟩ hbr
      obtain ⟨j, hj, e⟩ := List.mem_iff_getElem.1 hs
      exact HI.out j s hj (by rw [List.getElem?_eq_getElem hj, e])
theorem lift_bd {f : List Int} {x n k : Nat} {s : Int} (hb : ∀ (i : Nat) v, f[i]? = some v → v ≤ 500 * k) (h0 : 0 ≤ s) (h1 : s ≤ 500) : ∀ (i : Nat) v, (liftF f x n s)[i]? = some v → v ≤ 500 * ((k + 1 : Nat) : Int) := by
  intro i v hv
  rw [liftF_get] at hv
  cases hi : f[i]? with
  | none => rw [hi] at hv; cases hv
  | some u =>
    rw [hi] at hv
    simp only [Option.map_some, Option.some.injEq] at hv
    have := hb i u hi
    split at hv <;> omega
end Go.Proofs.Ythifflekbdeafaa
