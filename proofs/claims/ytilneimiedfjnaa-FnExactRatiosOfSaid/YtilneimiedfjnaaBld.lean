/- A builder of the call's own: what it is checked for, and a byte written. -/
import Derived.Test.YtilneimiedfjnaaApp
import Derived.Test.YtilneimiedfjnaaShelf
import Derived.Lib.Builder
import Derived.WalkKit
set_option linter.all false
namespace Go.Proofs.Ytilneimiedfjnaa
open Go.RowKit

theorem sizeBld : (Try.prog.info? 94).map (·.size) = some 2 := by kernel_rfl
theorem liesBld : liesAt Try.prog Try.prog.depth 94 (2 / Try.prog.cellsOf 94) 0 94 1 = true := by kernel_rfl
theorem infoU8 : (Try.prog.info? 5).map (fun i => (i.zero, i.size, i.bytes)) = some (some (.int .u8 0), 1, 1) := by kernel_rfl
set_option maxRecDepth 100000 in
set_option maxHeartbeats 2000000 in
theorem checkUsed (b : Nat) (w : World) (h0 : w.cell? ⟨b, 0, none⟩ = some (.pointer (some ⟨b, 0, none⟩))) :
    Calls Try.prog 118 #[.pointer (some ⟨b, 0, none⟩)] w fun e w' => e = .returned (.tuple #[]) ∧ w' = w := by
  obtain ⟨j, hj, _⟩ := Option.map_eq_some_iff.1 sizeBld
  go_enter Try.func118, Try.ntmps118
  go_wp2
  rw [Lib.run_neq_ptr_same w _ Try.underlying91 hj]
  go_wp2
  go_end0
  exact ⟨rfl, rfl⟩
set_option maxRecDepth 100000 in
set_option maxHeartbeats 2000000 in
theorem checkFresh (b : Nat) (w : World) (h0 : w.cell? ⟨b, 0, none⟩ = some (.pointer none)) (hsh : w.shape? b = some (94, 2)) (hfz : w.frozen? ⟨b, 0, none⟩ = false) :
    Calls Try.prog 118 #[.pointer (some ⟨b, 0, none⟩)] w fun e w' => e = .returned (.tuple #[]) ∧ w' = w.setCell ⟨b, 0, none⟩ (.pointer (some ⟨b, 0, none⟩)) := by
  obtain ⟨j, hj, hjs⟩ := Option.map_eq_some_iff.1 sizeBld
  have e1 : (convert 91 142 (.pointer (some ⟨b, 0, none⟩))).run Try.prog w = .ok (.pointer (some ⟨b, 0, none⟩)) w := Lib.run_to_unsafe w ⟨b, 0, none⟩ Try.underlying91 Try.underlying142 hj (by rw [hjs]; decide) hsh (Nat.zero_lt_succ 1)
  have e2 : (callFunc 129 #[.pointer (some ⟨b, 0, none⟩)]).run Try.prog w = .ok (.value (.pointer (some ⟨b, 0, none⟩))) w := by
    rw [run_callFunc_extern Try.func129 (by kernel_rfl) (by kernel_rfl) (by kernel_rfl) (e := Extern.AbiNoEscape.same) (by kernel_rfl), Lib.run_noEscape]
    rfl
  have e3 : (convert 142 91 (.pointer (some ⟨b, 0, none⟩))).run Try.prog w = .ok (.pointer (some ⟨b, 0, none⟩)) w := Lib.run_from_unsafe w ⟨b, 0, none⟩ Try.underlying142 Try.underlying91 hj hsh liesBld
  go_enter Try.func118, Try.ntmps118
  go_wp2
  go_end0
  exact ⟨rfl, rfl⟩
theorem check_any (B b : Nat) (bs : List Value) (w : World) (h : Lib.IsBuilder 94 5 B b bs w) :
    Calls Try.prog 118 #[.pointer (some ⟨b, 0, none⟩)] w fun e w' => e = .returned (.tuple #[]) ∧ Lib.BuilderAt 94 5 B b (.pointer (some ⟨b, 0, none⟩)) bs w' ∧ Below B w w' := by
  rcases h with h | h
  · refine (checkFresh b w h.cell0 h.shape h.frozen0).mono ?_
    rintro e w' ⟨rfl, rfl⟩
    exact ⟨rfl, h.used _, (Below.refl B w).setCell (p := ⟨b, 0, none⟩) h.1 _⟩
  · refine (checkUsed b w h.cell0).mono ?_
    rintro e w' ⟨rfl, rfl⟩
    exact ⟨rfl, h, Below.refl B _⟩
theorem new1b (w : World) (a : Value) (t : TypeId) : ∀ j u, [a][j]? = some u → (w.alloc (.cells #[a] t)).cell? ((⟨w.heap.size, 0, none⟩ : Addr).add j) = some u := by
  intro j u hj
  match j, hj with
  | 0, hj => simp at hj; subst hj; simp [Addr.add]
set_option maxRecDepth 100000 in
set_option maxHeartbeats 4000000 in
theorem writeByte_any (B b : Nat) (bs : List Value) (c : Int) (w : World) (h : Lib.IsBuilder 94 5 B b bs w) (hlen : bs.length ≤ 1000) (hBw : B ≤ w.heap.size) :
    Calls Try.prog 89 #[.pointer (some ⟨b, 0, none⟩), .int .u8 c] w fun e w' => e = .returned .nilIface ∧ Lib.IsBuilder 94 5 B b (bs ++ [.int .u8 c]) w' ∧ Below B w w' := by
  obtain ⟨i0, hi, hz0, hz1, hz2⟩ := info_parts infoU8
  go_enter Try.func89, Try.ntmps89
  go_wp2_with fail
  refine (check_any B b bs w h).mono ?_
  rintro e w1 ⟨rfl, hA1, hb1⟩
  obtain ⟨hBb, v, hbk, hown, hne⟩ := id hA1
  have hlt := hA1.lt
  have hBw1 : B ≤ w1.heap.size := by omega
  obtain ⟨A, cc, rfl⟩ := own_val hown
  have c1 : w1.cell? ⟨b, 1, none⟩ = some (.slice A bs.length cc) := by rw [Lib.cell_of_heap hbk]; rfl
  obtain ⟨n, hn⟩ : ∃ n, bs.length = n := ⟨_, rfl⟩
  have HN := Lib.hid hn
  rw [hn] at hown c1 hlen hbk hne
  have hbd1 : n + 1 ≤ maxLen := by unfold maxLen; omega
  have hbd2 : (n + 1) * 1 ≤ 140737488355328 := by omega
  clear hn h hA1
  go_wp2_with (at_builtin; refine app_list rfl _ _ _ rfl B 5 i0 (.int .u8 0) 1 1 Try.underlying92 hi hz0 hz1 hz2 rfl (by decide) (.slice A n cc) n bs rfl (hown.alloc _) (some ⟨w1.heap.size, 0, none⟩) 1 1 [.int .u8 c] rfl rfl (.inr ⟨_, rfl, new1b _ _ _⟩) (by intro u hu; simp at hu; subst hu; rfl) hbd1 hbd2 (by simp; omega) ?_; intro v' w6 hown6 hgrow hv6; obtain ⟨A6, c6, rfl⟩ := own_val hown6; have hbk6 := (hgrow.block b (by simp; omega) (fun e => hne (e.symm))).trans ((Lib.alloc_old w1 _ b hlt).trans hbk); have d1 : w6.cell? ⟨b, 1, none⟩ = some (.slice A n cc) := (by rw [Lib.cell_of_heap hbk6]; rfl); have t1 := Lib.frozen_of_heap hbk6 1)
  go_ret
  have hown7 : w6.ownsRow B 5 1 (.slice A6 (n + 1) c6) (bs ++ [Value.int .u8 c]).length (bs ++ [Value.int .u8 c]) := by
    rw [List.length_append, HN.out]
    exact hown6
  have hP := Lib.BuilderAt.put (p := .pointer (some ⟨b, 0, none⟩)) (T := 94) (e := 5) hBb hbk6 hown7 (by decide)
  have hB6 : Below B w1 w6 := ((Below.refl _ _).alloc hBw1 _).grown hgrow (by simp; omega) (fun k hk => (hown.lt k hk).1)
  exact ⟨rfl, .inr hP, hb1.trans (hB6.setCell (p := ⟨b, 1, none⟩) hBb _)⟩
end Go.Proofs.Ytilneimiedfjnaa
