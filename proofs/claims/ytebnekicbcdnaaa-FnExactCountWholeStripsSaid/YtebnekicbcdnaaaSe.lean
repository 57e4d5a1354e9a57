/- The filler made. -/
import Derived.Test.YtebnekicbcdnaaaSdNo
import Derived.Test.YtebnekicbcdnaaaLeaf
import Derived.Carry
set_option linter.all false
namespace Go.Proofs.Ytebnekicbcdnaaa
open Go.RowKit

@[go_sem] theorem store_fv (P : Program) (w : World) (a : Addr) (m : Mode) (fn : Fn) (first captured : Array Value) : (store a (.func fn first captured) m).run P w = stored P w a (.func fn first captured) m := run_store P w a _ m rfl
theorem cf_no (b h H m : Nat) (h1 : 1 ≤ h) (h4 : h ≤ 4) (hH : H ≤ 30) : ∀ (n : Nat) (f : List Int) (E : List (List Int × Value)) (w : World), free h (H : Int) f < n → Fl h (H : Int) f → FQ b h H m (.func (.func 54) #[] #[]) (fun _ => false) E w → Calls Try.prog 87 #[.pointer (some ⟨b, 0, none⟩), arr (pad4 f)] w (RetQ b h H m (.func (.func 54) #[] #[]) (fun _ => false) E f w) := by
  intro n
  induction n with
  | zero => intro f E w hn; omega
  | succ n ih => intro f E w hn hf Q; exact cf_node_no b h H m n h1 h4 hH ih f E w (by omega) hf Q
theorem flat_fl (h H : Nat) : Fl h (H : Int) (flatC h H) := by
  refine ⟨by simp [flatC], fun i u hu => ?_, fun i u hu => ?_⟩ <;>
  · unfold flatC at hu; rw [List.getElem?_replicate] at hu; split at hu <;> cases hu; omega
theorem flat_sum (h H : Nat) : (flatC h (H : Int)).sum = (h : Int) * H := by
  unfold flatC
  induction h with
  | zero => simp
  | succ h ih => rw [List.replicate_succ, List.sum_cons, ih, Int.natCast_succ, Int.add_mul]; omega
theorem flat_cS {p : Nat → Bool} {h H : Nat} (h1 : 1 ≤ h) : cS p h (H : Int) (flatC h H) = [1] := by
  have hf := flat_fl h H
  obtain ⟨x, y, r, hm, hr⟩ := hf.rm h1
  obtain rfl := hf.zero (by unfold free; rw [flat_sum]; omega) hm hr
  exact cS_leaf hm hr
theorem update_nil (m ck : Nat) (g : List Int) (v : Value) (hg : g.length = 4) (w : World) (h1 : w.heap[m]? = some (.map #[] ck)) :
    ∃ w', (Instr.mapUpdate 101 (.map (some m)) (arr g) v).run Try.prog w = .ok () w' ∧ KM m [(g, v)] w' ∧ w.grownBy w' (some m) := by
  have hu : Try.prog.underlying 101 = some (.map 82 25) := by kernel_rfl
  have hlt : m < w.heap.size := (Array.getElem?_eq_some_iff.1 h1).1
  have hgr : ∀ o, w.grownBy { w with heap := w.heap.setIfInBounds m o } (some m) := fun o => ⟨rfl, rfl, rfl, by simp, fun k hk hne => by
    show (w.heap.setIfInBounds m o)[k]? = _
    rw [Array.getElem?_setIfInBounds_ne (fun e => hne (by rw [e]))]⟩
  rcases findKey_any g hg (#[] : Array MapEntry).toList [] rfl (fun p hp => by cases hp) with ⟨h3, _⟩ | ⟨j, p, h3, _⟩
  · refine ⟨{ w with heap := w.heap.setIfInBounds m (.map ((#[] : Array MapEntry).push { key := arr g, val := v, born := ck }) (ck + 1)) }, ?_, ⟨⟨(#[] : Array MapEntry).push { key := arr g, val := v, born := ck }, ck + 1, by simp [hlt], by simp⟩, fun q hq => ?_⟩, hgr _⟩
    · simp only [] at h3
      simp [Instr.mapUpdate, run_underlying hu, MapKept.run_getObj_map h1, checkA _ g hg w, h3, MapKept.run_setObj_map _ h1, Result.andThen]
    · simp at hq; subst hq; exact hg
  · cases h3
set_option maxRecDepth 100000 in
set_option maxHeartbeats 8000000 in
theorem newF_no (h H : Nat) (h1 : 1 ≤ h) (h4 : h ≤ 4) (hH1 : 1 ≤ H) (hH : H ≤ 30) (p : Nat → Bool) (w : World) : Calls Try.prog 82 #[.int .i64 h, .int .i64 H, (.func (.func 54) #[] #[])] w fun e w' => ∃ b m E, e = .returned (.tuple #[.pointer (some ⟨b, 0, none⟩), .bool true]) ∧ FQ b h H m (.func (.func 54) #[] #[]) p E w' ∧ Below w.heap.size w w' ∧ w.heap.size ≤ b ∧ w.heap.size ≤ m ∧ (∀ q ∈ E, ∃ k, w.heap.size ≤ k ∧ q.2.ownBlock = some k) := by
  have hmm := @run_makeMap Try.prog
  have k1 : inB (h : Int) 1 4 = true := by simp [inB]; omega
  have k2 : inB (H : Int) 1 30 = true := by simp [inB]; omega
  obtain ⟨N, hN⟩ : ∃ N, w.heap.size = N := ⟨_, rfl⟩
  have C1 := isUpTo_any 4 (h : Int) w
  rw [k1] at C1
  have C2 := isUpTo_any 30 (H : Int) w
  rw [k2] at C2
  rw [hN]
  go_enter Try.func82, Try.ntmps82
  go_wp2_with fail
  refine C1.mono ?_
  rintro e w' ⟨rfl, hw⟩
  subst hw
  clear C1
  go_wp2_with fail
  refine C2.mono ?_
  rintro e w' ⟨rfl, hw⟩
  subst hw
  clear C2
  obtain ⟨W1, hW1⟩ : ∃ W1, W1 = w.alloc (.cells #[.int .i64 h, .int .i64 H, (.func (.func 54) #[] #[]), .map none] 103) := ⟨_, rfl⟩
  go_wp2_with fail
  try simp only [hN]
  rw [← hW1]
  have hs1 : W1.heap.size = N + 1 := by rw [hW1, ← hN]; simp
  obtain ⟨W2, hW2⟩ : ∃ W2, W2 = W1.alloc (.map #[] 0) := ⟨_, rfl⟩
  rw [← hW2]
  have hb1 : Below N w W1 := by rw [hW1, ← hN]; exact (Below.refl _ _).alloc (Nat.le_refl _) _
  have hb2 : Below N w W2 := by rw [hW2]; exact hb1.alloc (by omega) _
  have hs2 : W2.heap.size = N + 2 := by rw [hW2, World.size_alloc, hs1]
  have hbl2 : W2.heap[N]? = some (.cells #[.int .i64 h, .int .i64 H, (.func (.func 54) #[] #[]), .map none] 103 (0, 0)) := by
    have e1 : W1.heap[N]? = some (.cells #[.int .i64 h, .int .i64 H, (.func (.func 54) #[] #[]), .map none] 103 (0, 0)) := by rw [hW1, ← hN]; exact heap_alloc_new w _
    rw [← e1, hW2]
    exact ((Below.refl W1.heap.size W1).alloc (Nat.le_refl _) _).block N (by omega)
  have hml2 : W2.heap[N + 1]? = some (.map #[] 0) := by rw [hW2, ← hs1]; exact heap_alloc_new W1 _
  clear hW1 hW2 hb1 hs1
  have C3 := filledTo_any N h H 0 (.func (.func 54) #[] #[]) (H : Int) h1 h4 (by omega) W2 (by simp [World.cell?, hbl2])
  refine C3.mono ?_
  rintro e w3 ⟨rfl, hb3⟩
  clear C3
  obtain ⟨W4, hW4⟩ : ∃ W4, W4 = w3.alloc (.cells #[.int .i64 1] 3) := ⟨_, rfl⟩
  have hs3 := hb3.size
  have hb4 : Below W2.heap.size W2 W4 := by rw [hW4]; exact hb3.alloc hs3 _
  have hbl4 := (hb4.block N (by omega)).trans hbl2
  have hml4 := (hb4.block (N + 1) (by omega)).trans hml2
  have hrow4 := World.ownsRow_lit (base := N) (size := 1) (e := 3) w3 #[.int .i64 1] 1 (by omega) (by decide) rfl
  rw [← hW4] at hrow4
  obtain ⟨B, hB⟩ : ∃ B, w3.heap.size = B := ⟨_, rfl⟩
  have hs4 : W4.heap.size = B + 1 := by rw [hW4, World.size_alloc, hB]
  rw [hB] at hrow4
  have hBN : N + 2 ≤ B := by omega
  obtain ⟨w5, hrun, hK5, hg5⟩ := update_nil (N + 1) 0 (pad4 (flatC h H)) (.slice (some ⟨B, 0, none⟩) 1 1) (pad4_len (by simp [flatC]; omega)) W4 hml4
  have hbl5 := (hg5.block N (by omega) (by simp)).trans hbl4
  have hrow5 : w5.ownsRow N 3 1 (.slice (some ⟨B, 0, none⟩) 1 1) 1 (nI [1]) := own_blk hrow4 fun k hk => hg5.block k (hrow4.lt k hk).2 (fun e => by simp [Value.ownBlock] at hk; have := Option.some.inj e; omega)
  have hb5 : Below N w w5 := by
    refine ((hb2.trans (hb4.mono (by omega))).grown hg5 (by omega) (fun j hj => ?_))
    simp at hj; omega
  obtain ⟨G, hG⟩ : ∃ G, pad4 (flatC h (H : Int)) = G := ⟨_, rfl⟩
  rw [hG] at hrun hK5 ⊢
  have z0 : w5.cell? ⟨N, 0, none⟩ = some (.int .i64 h) := by simp [World.cell?, hbl5]
  have z1 : w5.cell? ⟨N, 1, none⟩ = some (.int .i64 H) := by simp [World.cell?, hbl5]
  have z2 : w5.cell? ⟨N, 2, none⟩ = some (.func (.func 54) #[] #[]) := by simp [World.cell?, hbl5]
  have z3 : w5.cell? ⟨N, 3, none⟩ = some (.map none) := by simp [World.cell?, hbl5]
  have f3 : w5.frozen? ⟨N, 3, none⟩ = false := by simp [World.frozen?, hbl5]
  clear hmm
  rw [hW4, ← hB] at hrun
  clear hb2 hs2 hbl2 hml2 hs3 hb4 hbl4 hml4 hrow4 hs4 hW4 hb3
  have HB := Lib.hid hB
  have HBN := Lib.hid hBN
  have HK := Lib.hid hK5
  have HR := Lib.hid hrow5
  have HBE := Lib.hid hb5
  have HBL := Lib.hid hbl5
  have HG := Lib.hid hG
  have HN := Lib.hid hN
  clear hB hBN hK5 hrow5 hb5 hbl5 hG hN hg5 k1 k2
  go_wp2_with fail
  go_ret2
  have hs5 := HR.out.lt B rfl
  refine ⟨N, N + 1, _, rfl, ⟨⟨?_, ?_, ?_, ?_⟩, ⟨_, _, heap_setCell_same _ _ _ _ _ _ HBL.out⟩, HK.out.keep (heap_setCell_other _ _ _ _ (by simp)), fun q hq => ?_, ⟨_, List.mem_singleton_self _, HG.out.symm⟩⟩, HBE.out.setCell (p := ⟨N, _, none⟩) (Nat.le_refl _) _, Nat.le_refl _, Nat.le_succ _, fun q hq => ?_⟩
  · simp [World.cell?, heap_setCell_same _ _ _ _ _ _ HBL.out]
  · simp [World.cell?, heap_setCell_same _ _ _ _ _ _ HBL.out]
  · simp [World.cell?, heap_setCell_same _ _ _ _ _ _ HBL.out]
  · simp [World.cell?, heap_setCell_same _ _ _ _ _ _ HBL.out]
  · simp at hq; subst hq
    refine ⟨flatC h H, some ⟨B, 0, none⟩, 1, flat_fl h H, HG.out.symm, by rw [flat_cS h1]; rfl, ?_⟩
    rw [flat_cS h1]
    exact own_base (own_blk HR.out fun k hk => heap_setCell_other _ _ _ _ (by simp [Value.ownBlock] at hk; have := HBN.out; simp; omega)) (Nat.zero_le _)
  · simp at hq; subst hq
    exact ⟨B, by have := HBN.out; omega, rfl⟩
set_option maxRecDepth 100000 in
theorem newF_bad (h H : Int) (hok : (inB h 1 4 && inB H 1 30) = false) (w : World) : Calls Try.prog 82 #[.int .i64 h, .int .i64 H, (.func (.func 54) #[] #[])] w fun e w' => e = .returned (.tuple #[.pointer none, .bool false]) ∧ w = w' := by
  have C1 := isUpTo_any 4 h w
  have C2 := isUpTo_any 30 H w
  cases k1 : inB h 1 4 with
  | false =>
    rw [k1] at C1
    clear hok k1
    go_enter Try.func82, Try.ntmps82
    go_wp2_with fail
    refine C1.mono ?_
    rintro e w' ⟨rfl, rfl⟩
    go_wp2_with fail
    go_ret2
    exact ⟨rfl, rfl⟩
  | true =>
    have k2 : inB H 1 30 = false := by rw [k1] at hok; simpa using hok
    rw [k1] at C1
    rw [k2] at C2
    clear hok k1 k2
    go_enter Try.func82, Try.ntmps82
    go_wp2_with fail
    refine C1.mono ?_
    rintro e w' ⟨rfl, rfl⟩
    go_wp2_with fail
    refine C2.mono ?_
    rintro e w' ⟨rfl, rfl⟩
    go_wp2_with fail
    go_ret2
    exact ⟨rfl, rfl⟩
/-- What lies at a base. -/
theorem own_up {w : World} {base size n : Nat} {e : TypeId} {v : Value} {xs : List Value} (h : w.ownsRow 0 e size v n xs) (hb : ∀ k, v.ownBlock = some k → base ≤ k) : w.ownsRow base e size v n xs := by
  refine ⟨h.1, ?_⟩
  rcases h.2 with h | ⟨g, cap, cur, rfl, _, r⟩
  · exact .inl h
  · exact .inr ⟨g, cap, cur, rfl, hb g rfl, r⟩
def zeroC (h : Nat) : List Int := List.replicate h 0
theorem zero_pad {h : Nat} (h4 : h ≤ 4) : pad4 (zeroC h) = [0, 0, 0, 0] := by
  unfold zeroC pad4
  match h, h4 with
  | 0, _ => rfl
  | 1, _ => rfl
  | 2, _ => rfl
  | 3, _ => rfl
  | 4, _ => rfl
set_option maxRecDepth 100000 in
set_option maxHeartbeats 4000000 in
theorem ofS_no (h H : Nat) (h1 : 1 ≤ h) (h4 : h ≤ 4) (hH1 : 1 ≤ H) (hH : H ≤ 30) (w : World) : Calls Try.prog 53 #[.int .i64 h, .int .i64 H, (.func (.func 54) #[] #[])] w fun e w' => ∃ A c, e = .returned (.tuple #[.slice A (cS (fun _ => false) h (H : Int) (zeroC h)).length c, .bool true]) ∧ w'.ownsRow w.heap.size 3 1 (.slice A (cS (fun _ => false) h (H : Int) (zeroC h)).length c) (cS (fun _ => false) h (H : Int) (zeroC h)).length (nI (cS (fun _ => false) h (H : Int) (zeroC h))) ∧ Below w.heap.size w w' := by
  obtain ⟨N, hN⟩ : ∃ N, w.heap.size = N := ⟨_, rfl⟩
  have C1 := newF_no h H h1 h4 hH1 hH (fun _ => false) w
  have hfl : Fl h (H : Int) (zeroC h) := Fl.start h (by omega)
  have CFA := fun (b m : Nat) (E : List (List Int × Value)) (V : World) (Q : FQ b h H m (.func (.func 54) #[] #[]) (fun _ => false) E V) => cf_no b h H m h1 h4 hH _ (zeroC h) E V (Nat.lt_succ_self _) hfl Q
  rw [zero_pad h4] at CFA
  simp only [arr, ints, List.map_cons, List.map_nil] at CFA
  rw [hN] at C1 ⊢
  obtain ⟨L, hL⟩ : ∃ L, cS (fun _ => false) h (H : Int) (zeroC h) = L := ⟨_, rfl⟩
  unfold RetQ at CFA
  rw [hL] at CFA ⊢
  have HC := Lib.hid C1
  have HF := Lib.hid CFA
  have HN := Lib.hid hN
  clear C1 CFA hfl hL hN
  go_enter Try.func53, Try.ntmps53
  go_wp2_with fail
  refine HC.out.mono ?_
  rintro e w1 ⟨b, m, E, rfl, Q1, hb1, hbN, hmN, hEn⟩
  have HQ := Lib.hid Q1
  have HB1 := Lib.hid hb1
  have HE := Lib.hid hEn
  have HBM := Lib.hid (show N ≤ b ∧ N ≤ m from ⟨hbN, hmN⟩)
  clear Q1 hb1 hEn hbN hmN
  go_wp2_with fail
  (with_reducible refine (HF.out b m E w1 HQ.out).mono ?_)
  rintro e w2 ⟨A, c, E2, rfl, Q2, hrow, _, hv, hg⟩
  have hz := HB1.out.size
  have hNw := HN.out
  have HRW := Lib.hid (own_up (base := N) hrow fun k hk => by
    rcases hv with ⟨q, hq, e⟩ | ⟨k', h1, h2⟩
    · obtain ⟨k2, h3, h4⟩ := HE.out q hq
      rw [e, hk] at h4; cases h4; exact h3
    · rw [hk] at h2; cases h2; omega)
  have HBE := Lib.hid (HB1.out.grown hg (by omega) (fun j hj => by cases hj; exact HBM.out.2))
  clear Q2 hrow hv hg hz hNw
  go_wp2_with fail
  go_ret2
  exact ⟨A, c, rfl, HRW.out, HBE.out⟩
set_option maxRecDepth 100000 in
theorem ofS_bad (h H : Int) (hok : (inB h 1 4 && inB H 1 30) = false) (w : World) : Calls Try.prog 53 #[.int .i64 h, .int .i64 H, (.func (.func 54) #[] #[])] w fun e w' => e = .returned (.tuple #[.slice none 0 0, .bool false]) ∧ w = w' := by
  have C1 := newF_bad h H hok w
  clear hok
  go_enter Try.func53, Try.ntmps53
  go_wp2_with fail
  refine C1.mono ?_
  rintro e w' ⟨rfl, rfl⟩
  go_wp2_with fail
  go_ret2
  exact ⟨rfl, rfl⟩
end Go.Proofs.Ytebnekicbcdnaaa
