/- Contracts of lists made of groups. -/
import Derived.Test.YtfkifcjjkaenhaaGreatDoorGrp
set_option linter.all false
namespace Go.Proofs.YtfkifcjjkaenhaaGreatDoor
open Go.RowKit

set_option maxRecDepth 100000 in
theorem list_any (x y d : Int) (v : Value) (w : World) :
    Calls Tryz.prog 51 #[.agg #[.int .i64 x, .int .i64 y, .int .i64 d, v]] w fun e w' => e = .returned (v) ∧ Below w.heap.size w w' := by
  go_enter Tryz.func51, Tryz.ntmps51
  go_wp2_with fail
  go_ret
  exact ⟨rfl, (Below.refl _ _).alloc (Nat.le_refl _) _⟩
set_option maxRecDepth 100000 in
set_option maxHeartbeats 4000000 in
theorem eachL_any (A : Option Addr) (n c base : Nat) (G : List Gp) (w : World) (hn : n ≤ 1000) (ho : OwnG w base A n c G) :
    Calls Tryz.prog 49 #[.slice A n c, .func (.func 51) #[] #[]] w fun e w' => e = .returned (.slice (some ⟨w.heap.size, 0, none⟩) n n) ∧ w'.ownsRow w.heap.size 32 1 (.slice (some ⟨w.heap.size, 0, none⟩) n n) n (G.map fun g => Value.slice g.r.A g.r.L.length g.r.c) ∧ Below w.heap.size w w' := by
  obtain ⟨i0, hi, hz0, hz1, hz2⟩ := info_parts infoSl
  have HLEN := Lib.hid ho.len
  go_enter Tryz.func49, Tryz.ntmps49
  go_wp2_with (at_make; refine wpList_make_full _ rfl _ _ 22 rfl w.heap.size 32 i0 (.slice none 0 0) 1 Tryz.underlying22 hi hz0 hz1 .i64 .i64 n n n rfl rfl rfl rfl (by rw [hz2]; omega) (by unfold maxLen; omega) (Nat.le_refl _) ?_; intro w2 hown hgrow)
  have hb2 : Below w.heap.size w w2 := (Below.refl _ w).grown hgrow (Nat.le_refl _) (by simp)
  clear hgrow
  obtain ⟨g0, hg0⟩ : ∃ g, g = w.heap.size := ⟨_, rfl⟩
  rw [← hg0] at hown ⊢
  have HG0 := Lib.hid hg0
  go_loopw [13] (fun i wr => ∃ k : Nat, k ≤ n ∧ i = .int .i64 k ∧ Below w.heap.size w wr ∧ ∃ xs, wr.ownsRow w.heap.size 32 1 (.slice (some ⟨g0, 0, none⟩) n n) n xs ∧ xs.take k = (G.take k).map fun g => Value.slice g.r.A g.r.L.length g.r.c) (fun i _ => n - (intOf i).toNat)
  case atStart => exact ⟨0, Nat.zero_le _, rfl, hb2, _, (by rw [← hg0]; exact hown), by simp⟩
  case round =>
    obtain ⟨k, hk, rfl, hbr, xs, hown1, htake⟩ := hrel
    have hs1 := hbr.size
    by_cases hlt : k < n
    · have hlen := HLEN.out
      obtain ⟨g, hg⟩ : ∃ g, G[k]? = some g := ⟨_, List.getElem?_eq_getElem (by omega)⟩
      obtain ⟨a0, rfl⟩ := own_form ho.outer (by omega)
      have ha0 := (own_lt ho.outer).2
      have e1 : G = G.take k ++ g :: G.drop (k + 1) := by
        have h1 := List.take_append_drop k G
        rw [List.drop_eq_getElem_cons (by omega : k < G.length), (List.getElem?_eq_some_iff.1 hg).2] at h1
        exact h1.symm
      have hlk : (G.take k).length = k := by rw [List.length_take]; omega
      have hcell : ∀ j v, (gpV g)[j]? = some v → wr.cell? ⟨a0, k * 4 + j, none⟩ = some v := fun j v hv => by
        have hj : j < 4 := by have := (List.getElem?_eq_some_iff.1 hv).1; simpa [gpV] using this
        rw [hbr.cell (p := ⟨a0, _, none⟩) ha0, ho.outer.cellAt (k * 4 + j) (by omega), e1]
        have := flatG_get (G.take k) (G.drop (k + 1)) g j v hv
        rwa [hlk] at this
      have c0 : wr.cell? ⟨a0, k * 4, none⟩ = some (.int .i64 g.s.x) := by simpa using hcell 0 _ rfl
      have c1 := hcell 1 _ rfl
      have c2 := hcell 2 _ rfl
      have c3 : wr.cell? ⟨a0, k * 4 + 3, none⟩ = some (.slice g.r.A g.r.L.length g.r.c) := hcell 3 _ rfl
      have e2 : (G.take (k + 1)).map (fun g => Value.slice g.r.A g.r.L.length g.r.c) = (G.take k).map (fun g => Value.slice g.r.A g.r.L.length g.r.c) ++ [Value.slice g.r.A g.r.L.length g.r.c] := by rw [List.take_add_one, hg]; simp
      have HE := Lib.hid e2
      have HT := Lib.hid htake
      have hx := hown1.1
      have hgg := own_lt hown1
      have k0 : (0 : Int) ≤ (k : Int) := by omega
      have k1 : (k : Int) < (n : Int) := by omega
      clear hcell e1 e2 hlk hg ho hlen htake hg0
      go_wp2_with fail
      refine (list_any g.s.x g.s.y g.s.d (.slice g.r.A g.r.L.length g.r.c) _).mono ?_
      rintro e w3 ⟨rfl, hb3⟩
      have hbx : Below wr.heap.size wr w3 := ((Below.refl wr.heap.size wr).alloc (Nat.le_refl _) _).trans (hb3.mono (show wr.heap.size ≤ _ by simp))
      have hown3 := own_keep hown1 hbx
      obtain ⟨v0, y0⟩ := own_some hown3 (j := k) (by omega)
      have z0 := hown3.frozenAt k
      have R := (hown3.stored k (Value.slice g.r.A g.r.L.length g.r.c)).1
      have hB3 := (hbr.trans (hbx.mono hs1)).setCell (p := ⟨g0, k, none⟩) hgg.1 (Value.slice g.r.A g.r.L.length g.r.c)
      clear hb3 hbx hown1 hown3 c0 c1 c2 c3 hbr
      go_wp2_with fail
      go_roundw
      case rel => exact ⟨k + 1, by omega, by go_num, hB3, _, R, by rw [take_set1 _ _ _ (by omega), HT.out, HE.out]⟩
      case measure => simp [intOf]; omega
    · obtain rfl : k = n := by omega
      have hx := hown1.1
      rw [List.take_of_length_le (by omega), List.take_of_length_le (by have := HLEN.out; omega)] at htake
      subst htake
      have hg0 := HG0.out
      subst hg0
      go_wp2_with fail
      go_ret
      exact ⟨rfl, hown1, hbr⟩

end Go.Proofs.YtfkifcjjkaenhaaGreatDoor
