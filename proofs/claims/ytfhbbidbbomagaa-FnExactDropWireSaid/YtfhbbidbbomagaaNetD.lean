/- slices.Delete at []Wire: one element of an owned row. -/
import Derived.Test.YtfhbbidbbomagaaNetA
import Derived.Lib.SliceRun
namespace Go.Proofs.Ytfhbbidbbomagaa
open Go.RowKit

def setL (xs : List Value) (o : Nat) : List Value → List Value
  | [] => xs
  | v :: r => setL (xs.set o v) (o + 1) r
theorem setL_eq : ∀ (vs xs : List Value) (o : Nat), o + vs.length ≤ xs.length → setL xs o vs = xs.take o ++ vs ++ xs.drop (o + vs.length)
  | [], xs, o, _ => by simp [setL]
  | v :: r, xs, o, h => by
    simp only [List.length_cons] at h
    rw [setL, setL_eq r (xs.set o v) (o + 1) (by simp; omega)]
    apply List.ext_getElem?
    intro i
    simp only [List.getElem?_append, List.length_append, List.length_take, List.length_set, List.length_cons, List.getElem?_take, List.getElem?_drop, List.getElem?_set, List.getElem?_cons]
    grind
theorem own_sets {base g cap size n : Nat} {e : TypeId} : ∀ (vs : List Value) (o : Nat) (w : World) (xs : List Value), w.ownsRow base e size (.slice (some ⟨g, 0, none⟩) n cap) n xs → (w.setCells g o vs).ownsRow base e size (.slice (some ⟨g, 0, none⟩) n cap) n (setL xs o vs) ∧ w.grownBy (w.setCells g o vs) (some g)
  | [], _, w, _, h => ⟨h, ⟨rfl, rfl, rfl, Nat.le_refl _, fun _ _ _ => rfl⟩⟩
  | v :: r, o, w, xs, h => by
    have h1 := h.stored o v
    have h2 := own_sets r (o + 1) (w.setCell ⟨g, o, none⟩ v) (xs.set o v) h1.1
    exact ⟨h2.1, h1.2.trans h2.2⟩
theorem own_shrink {w : World} {base g cap size n m : Nat} {e : TypeId} {xs : List Value} (h : w.ownsRow base e size (.slice (some ⟨g, 0, none⟩) n cap) n xs) (hm : m ≤ n) : w.ownsRow base e size (.slice (some ⟨g, 0, none⟩) m cap) m (xs.take (m * size)) := by
  have hmn : m * size ≤ n * size := Nat.mul_le_mul_right _ hm
  refine ⟨by rw [List.length_take, h.1]; omega, ?_⟩
  rcases h.2 with ⟨h', _⟩ | ⟨g', cap', cur, h', hb, hg, hnc, hcm, hcs, htake⟩
  · simp at h'
  · simp only [Value.slice.injEq, Option.some.injEq, Addr.mk.injEq, and_true, true_and] at h'
    obtain ⟨rfl, rfl⟩ := h'
    exact .inr ⟨g, cap, cur, rfl, hb, hg, Nat.le_trans hm hnc, hcm, hcs, by rw [← htake, List.take_take, Nat.min_eq_left hmn]⟩
theorem erase_flat (L : List Wi) (k : Nat) (hk : k < L.length) (z : List Value) (hz : z.length = 2) :
    (setL (setL (flatW L) (k * 2) (flatW (L.drop (k + 1)))) ((L.length - 1) * 2) z).take ((L.length - 1) * 2) = flatW (L.eraseIdx k) := by
  have l1 := flatW_len L
  have l2 := flatW_len (L.drop (k + 1))
  rw [List.length_drop] at l2
  have l3 : (setL (flatW L) (k * 2) (flatW (L.drop (k + 1)))).length = L.length * 2 := by
    rw [setL_eq _ _ _ (by omega)]; simp only [List.length_append, List.length_take, List.length_drop]; omega
  rw [setL_eq z _ _ (by omega), setL_eq _ _ _ (by omega)]
  have e : flatW L = flatW (L.take k) ++ flatW (L.drop k) := by rw [← flatW_app, List.take_append_drop]
  have l4 := flatW_len (L.take k)
  rw [List.length_take, Nat.min_eq_left (Nat.le_of_lt hk)] at l4
  have t1 : (flatW L).take (k * 2) = flatW (L.take k) := by rw [e, ← l4]; simp
  rw [t1, List.eraseIdx_eq_take_drop_succ, flatW_app]
  rw [List.append_assoc, List.take_append_of_le_length (by simp only [List.length_append, List.length_take, List.length_drop]; omega)]
  rw [List.take_take, Nat.min_self, List.append_assoc, ← List.append_assoc, List.take_append_of_le_length (by rw [List.length_append]; omega), List.take_of_length_le (by rw [List.length_append]; omega)]
theorem zeroW (w : World) : (zeroValue 70).run Try.prog w = .ok (.agg #[.int .i64 0, .int .i64 0]) w := by kernel_rfl
theorem clear_one (w : World) (ty : TypeId) (b o c : Nat) (hc : ∀ j, j < 2 → (w.cell? ⟨b, o + j, none⟩).isSome = true) (hf : ∀ j, j < 2 → w.frozen? ⟨b, o + j, none⟩ = false) :
    (Builtin.clear_ #[26] ty #[.slice (some ⟨b, o, none⟩) 1 c]).run Try.prog w = .ok (.tuple #[]) (w.setCells b o [.int .i64 0, .int .i64 0]) := by
  have hzc : (Builtin.zeroCells (Value.agg #[.int .i64 0, .int .i64 0]).cells 1).toList = [.int .i64 0, .int .i64 0] := by
    first
      | decide
      | (simp [Builtin.zeroCells, Value.cells]; done)
      | (simp [Builtin.zeroCells, Value.cells]; rfl)
      | (simp [Builtin.zeroCells, Value.cells]; decide)
      | kernel_rfl
  have hst := run_storeCells_cells (P := Try.prog) b o [.int .i64 0, .int .i64 0] 0 w (by simpa using hc) (by simpa using hf) (by intro v hv'; simp at hv'; subst hv'; rfl)
  simp only [Nat.add_zero] at hst
  simp [Builtin.clear_, run_underlying Try.underlying26, zeroW, hzc, hst]

set_option maxRecDepth 100000 in
set_option maxHeartbeats 4000000 in
theorem deleteW_any (g n c k j base : Nat) (L : List Wi) (w : World) (hl : L.length = n) (hk : k < n) (hjk : j = k + 1) (hn : n ≤ 30) (h : w.ownsRow base 70 2 (.slice (some ⟨g, 0, none⟩) n c) n (flatW L)) :
    Calls Try.prog 52 #[.slice (some ⟨g, 0, none⟩) n c, .int .i64 k, .int .i64 j] w fun e w' => e = .returned (.slice (some ⟨g, 0, none⟩) (n - 1) c) ∧ w'.ownsRow base 70 2 (.slice (some ⟨g, 0, none⟩) (n - 1) c) (n - 1) (flatW (L.eraseIdx k)) ∧ w.grownBy w' (some g) := by
  subst hl
  obtain ⟨i0, hi, hz0, hz1, hz2⟩ := info_parts infoWi
  have hcap := own_cap h
  have hcm : c ≤ maxLen := by
    rcases h.2 with ⟨h', _⟩ | ⟨g', cap', cur, h', hb, hg, hnc, hcm, hcs, htake⟩
    · simp at h'
    · simp only [Value.slice.injEq, Option.some.injEq, Addr.mk.injEq, and_true, true_and] at h'
      obtain ⟨rfl, rfl⟩ := h'
      exact hcm
  unfold maxLen at hcm
  have hd := h.drew
  have l1 := flatW_len L
  obtain ⟨news, hnews⟩ : ∃ news, news = flatW (L.drop j) := ⟨_, rfl⟩
  have hlen : news.length = (L.length - j) * 2 := by rw [hnews, flatW_len, List.length_drop]
  have hdrop : news = (flatW L).drop (j * 2) := by
    have l4 := flatW_len (L.take j)
    rw [List.length_take, Nat.min_eq_left (by omega)] at l4
    rw [hnews, show flatW L = flatW (L.take j) ++ flatW (L.drop j) by rw [← flatW_app, List.take_append_drop], ← l4]
    simp
  obtain ⟨A, hA, hsrc⟩ : ∃ A : Addr, (if c = j then some (⟨g, 0, none⟩ : Addr) else some ⟨g, j * 2, none⟩) = some A ∧ Hid (∀ t u, news[t]? = some u → w.drew.cell? (A.add t) = some u) := by
    by_cases e : c = j
    · refine ⟨⟨g, 0, none⟩, by simp [e], Lib.hid fun t u hu => ?_⟩
      have h0 : news.length = 0 := by rw [hlen]; omega
      rw [List.length_eq_zero_iff.1 h0] at hu
      simp at hu
    · refine ⟨⟨g, j * 2, none⟩, by simp [e], Lib.hid fun t u hu => ?_⟩
      rw [hdrop, List.getElem?_drop] at hu
      have hlt := (List.getElem?_eq_some_iff.1 hu).1
      rw [add_at]
      rw [hd.cellAt (j * 2 + t) (by omega)]
      exact hu
  have s1 : Hid (news.length = (L.length - j) * 2) := Lib.hid hlen
  have s2 : Hid (∀ u ∈ news, u.oneCell' = true) := Lib.hid (by rw [hnews]; exact flatW_one _)
  have s3 : Hid (∀ t, t < news.length → (w.drew.cell? ⟨g, 0 + k * 2 + t, none⟩).isSome = true ∧ w.drew.frozen? ⟨g, 0 + k * 2 + t, none⟩ = false) := Lib.hid (by
    intro t ht
    rw [hlen] at ht
    rw [Nat.zero_add, hd.cellAt (k * 2 + t) (by omega), List.getElem?_eq_getElem (by omega)]
    exact ⟨rfl, hd.frozenAt _⟩)
  obtain ⟨o1, g1⟩ := own_sets news (0 + k * 2) w.drew (flatW L) hd
  have l5 : (setL (flatW L) (0 + k * 2) news).length = L.length * 2 := by have := o1.1; omega
  obtain ⟨W1, hW1⟩ : ∃ W1, W1 = w.drew.setCells g (0 + k * 2) news := ⟨_, rfl⟩
  rw [← hW1] at o1 g1
  have hcl : ∀ ty c', (Builtin.clear_ #[26] ty #[.slice (some ⟨g, (k + (L.length - j)) * 2, none⟩) (L.length - (k + (L.length - j))) c']).run Try.prog W1 = .ok (.tuple #[]) (W1.setCells g ((L.length - 1) * 2) [.int .i64 0, .int .i64 0]) := fun ty c' => by
    rw [show L.length - (k + (L.length - j)) = 1 by omega, show k + (L.length - j) = L.length - 1 by omega]
    exact clear_one W1 ty g _ c' (fun i hi => by rw [o1.cellAt ((L.length - 1) * 2 + i) (by omega), List.getElem?_eq_getElem (by omega)]; rfl) (fun i hi => o1.frozenAt _)
  obtain ⟨o2, g2⟩ := own_sets [.int .i64 0, .int .i64 0] ((L.length - 1) * 2) W1 _ o1
  have o3 := own_shrink o2 (m := L.length - 1) (by omega)
  rw [Nat.zero_add, hnews, hjk, erase_flat L k hk _ rfl] at o3
  have O3 := Lib.hid o3
  have G := Lib.hid ((grown_of_below (Below.refl w.heap.size w).drew (some g)).trans (g1.trans g2))
  have hW : Hid (W1 = w.drew.setCells g (0 + k * 2) news) := Lib.hid hW1
  have hkc : k ≤ c := by omega
  have hkj : k < j := by omega
  have hkj2 : ¬ (k : Int) = (j : Int) := by omega
  have hjn : j ≤ L.length := by omega
  have hend : Hid (k + (L.length - j) = L.length - 1) := Lib.hid (by omega)
  have hle1 : k + (L.length - j) ≤ L.length := by omega
  have hne : ¬ c = k + (L.length - j) := by omega
  have hk1c : j ≤ c := by omega
  clear hW1 hnews hdrop hlen o1 g1 o2 g2 o3 l5 l1 hd h hjk
  go_enter Try.func52, Try.ntmps52
  go_wp2_with fail
  go_region_law (refine step_append_room rfl (.tmp 22) (.tmp 25) 26 rfl 70 i0 2 Try.underlying26 hi hz1 g 0 k c (by simp [Act.eval, Act.put]) A (L.length - j) (c - j) news (by simp [Act.eval, Act.put]) s1.out hsrc.out s2.out (by omega) s3.out ?_; rw [← hW.out])
  go_wp2_with fail
  go_ret
  exact ⟨by rw [hend.out]; rfl, O3.out, G.out⟩
end Go.Proofs.Ytfhbbidbbomagaa
