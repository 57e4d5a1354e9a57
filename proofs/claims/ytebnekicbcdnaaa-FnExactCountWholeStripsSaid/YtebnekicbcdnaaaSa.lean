/- Counts added to counts. -/
import Derived.Test.YtebnekicbcdnaaaSg
import Derived.Test.YtebnekicbcdnaaaSS
import Derived.Test.YtebnekicbcdnaaaApp
set_option linter.all false
namespace Go.Proofs.Ytebnekicbcdnaaa
open Go.RowKit

theorem infoIntA : (Try.prog.info? 3).map (fun i => (i.zero, i.size, i.bytes)) = some (some (.int .i64 0), 1, 8) := by kernel_rfl
def sLen : Value → Nat
  | .slice _ n _ => n
  | _ => 0
/-- Numbers as they lie in a row. -/
def nI (l : List Nat) : List Value := ints (List.map (fun (n : Nat) => (n : Int)) l)
theorem nI_zero : nI [0] = [.int .i64 0] := by simp [nI, ints]
theorem nI_len (l : List Nat) : (nI l).length = l.length := by simp [nI, ints]
theorem nI_get (l : List Nat) (k n : Nat) (h : l[k]? = some n) : (nI l)[k]? = some (.int .i64 (n : Int)) := by simp [nI, ints, h]
theorem nI_set (l : List Nat) (k n : Nat) : nI (l.set k n) = (nI l).set k (.int .i64 (n : Int)) := by simp [nI, ints, List.map_set]
theorem nI_app (l m : List Nat) : nI (l ++ m) = nI l ++ nI m := by simp [nI, ints]
/-- Counts of which the first j ways are added. -/
def plA (a b : List Nat) (m N j : Nat) : List Nat := (List.range N).map fun s => a.getD s 0 + if m ≤ s ∧ s < m + j then b.getD (s - m) 0 else 0
theorem plA_len (a b : List Nat) (m N j : Nat) : (plA a b m N j).length = N := by simp [plA]
theorem plA_get (a b : List Nat) (m N j s : Nat) (h : s < N) : (plA a b m N j)[s]? = some (a.getD s 0 + if m ≤ s ∧ s < m + j then b.getD (s - m) 0 else 0) := by simp [plA, h]
theorem plA_zero (a b : List Nat) (m N : Nat) (h : a.length ≤ N) : plA a b m N 0 = a ++ List.replicate (N - a.length) 0 := by
  apply List.ext_getElem?
  intro s
  by_cases hs : s < N
  · rw [plA_get _ _ _ _ _ _ hs, if_neg (by omega), Nat.add_zero]
    by_cases h2 : s < a.length
    · rw [List.getElem?_append_left h2]; simp [List.getD, List.getElem?_eq_getElem h2]
    · rw [List.getElem?_append_right (by omega), List.getElem?_replicate, if_pos (by omega)]
      simp [List.getD, List.getElem?_eq_none (show a.length ≤ s by omega)]
  · rw [List.getElem?_eq_none (by rw [plA_len]; omega), List.getElem?_eq_none (by simp; omega)]
theorem plA_all (a b : List Nat) (m : Nat) : plA a b m (max a.length (b.length + m)) b.length = addW a b m := by
  unfold plA addW
  refine List.map_congr_left fun s hs => ?_
  by_cases h : m ≤ s
  · rw [if_pos h]
    by_cases h2 : s < m + b.length
    · rw [if_pos ⟨h, h2⟩]
    · rw [if_neg (by omega)]
      simp [List.getD, List.getElem?_eq_none (show b.length ≤ s - m by omega)]
  · rw [if_neg h, if_neg (by omega)]
theorem plA_set (a b : List Nat) (m N j : Nat) : (plA a b m N j).set (j + m) (a.getD (j + m) 0 + b.getD j 0) = plA a b m N (j + 1) := by
  apply List.ext_getElem?
  intro s
  rw [List.getElem?_set, plA_len]
  by_cases hs : s < N
  · rw [plA_get _ _ _ _ _ _ hs, plA_get _ _ _ _ _ _ hs]
    by_cases e : j + m = s
    · subst e
      rw [if_pos rfl, if_pos hs, if_pos (by omega)]
      congr 3
      omega
    · rw [if_neg e]
      congr 2
      by_cases h : m ≤ s ∧ s < m + j
      · rw [if_pos h, if_pos (by omega)]
      · rw [if_neg h, if_neg (by omega)]
  · rw [List.getElem?_eq_none (by rw [plA_len]; omega), List.getElem?_eq_none (by rw [plA_len]; omega)]
    by_cases e : j + m = s
    · subst e; rw [if_pos rfl, if_neg hs]
    · rw [if_neg e]
set_option maxRecDepth 100000 in
set_option maxHeartbeats 8000000 in
theorem added_any (base : Nat) (A : Option Addr) (n c : Nat) (a : List Nat) (A2 : Option Addr) (n2 c2 : Nat) (b : List Nat) (m : Nat) (w : World) (hn : a.length = n) (hn2 : b.length = n2) (hna : n ≤ 1000) (hnb : n2 ≤ 1000) (hm : m ≤ 1)
    (ho : w.ownsRow base 3 1 (.slice A n c) n (nI a)) (hb : ∀ (k : Nat) u, b[k]? = some u → ∃ g o, A2 = some ⟨g, o, none⟩ ∧ g < w.heap.size ∧ (Value.slice A n c).ownBlock ≠ some g ∧ w.cell? ⟨g, o + k, none⟩ = some (.int .i64 (u : Int)))
    (hbase : base ≤ w.heap.size) (hsm : ∀ s, (addW a b m).getD s 0 ≤ 4611686018427387904) :
    Calls Try.prog 106 #[.slice A n c, .slice A2 n2 c2, .int .i64 m] w fun e w' => ∃ A' c', e = .returned (.slice A' (addW a b m).length c') ∧ w'.ownsRow base 3 1 (.slice A' (addW a b m).length c') (addW a b m).length (nI (addW a b m)) ∧ w.grownBy w' (Value.slice A n c).ownBlock ∧ ((Value.slice A' (addW a b m).length c').ownBlock = (Value.slice A n c).ownBlock ∨ ∃ k, w.heap.size ≤ k ∧ (Value.slice A' (addW a b m).length c').ownBlock = some k) := by
  obtain ⟨i0, hi, hz0, hz1, hz2⟩ := info_parts infoIntA
  obtain ⟨N, hN⟩ : ∃ N, max n (n2 + m) = N := ⟨_, rfl⟩
  have hNl : (addW a b m).length = N := by rw [addW_len, hn, hn2, hN]
  have HB := Lib.hid hb
  have HA := Lib.hid hn
  have HBL := Lib.hid hn2
  have HSM := Lib.hid hsm
  have HNL := Lib.hid hNl
  have HO := Lib.hid ho
  have e1 : (m : Int) ≤ 1 := by omega
  have e2 : (0 : Int) ≤ (m : Int) := by omega
  have e3 : (n2 : Int) ≤ 1000 := by omega
  have hN1 : N ≤ 1001 := by omega
  have hN2 : n ≤ N ∧ n2 + m ≤ N ∧ (N = n ∨ N = n2 + m) := by omega
  clear hb hn hn2 hsm hNl hN ho
  go_enter Try.func106, Try.ntmps106
  go_wp2_with fail
  go_loopw [0] (fun cv wr => ∃ (A1 : Option Addr) (c1 t : Nat), n + t ≤ N ∧ cv = .slice A1 (n + t) c1 ∧ wr.ownsRow base 3 1 (.slice A1 (n + t) c1) (n + t) (nI (a ++ List.replicate t 0)) ∧ w.grownBy wr (Value.slice A n c).ownBlock ∧ ((Value.slice A1 (n + t) c1).ownBlock = (Value.slice A n c).ownBlock ∨ ∃ k, w.heap.size ≤ k ∧ (Value.slice A1 (n + t) c1).ownBlock = some k)) (fun cv _ => 2000 - sLen cv)
  case atStart => exact ⟨A, c, 0, by omega, rfl, by simpa using HO.out, grown_refl _ _, .inl rfl⟩
  case round =>
    obtain ⟨A1, c1, t, ht, rfl, ho1, hg1, hob⟩ := hrel
    have hz := hg1.size
    by_cases hlt : n + t < n2 + m
    · have i1 : ((n + t : Nat) : Int) < (n2 : Int) + (m : Int) := by omega
      have hbl : n + t + 1 ≤ maxLen := by unfold maxLen; omega
      have hby : (n + t + 1) * 8 ≤ 140737488355328 := by omega
      go_wp2_with (at_builtin; refine app_list rfl _ _ _ rfl base 3 i0 (.int .i64 0) 1 8 Try.underlying25 hi hz0 hz1 hz2 rfl (by decide) (.slice A1 (n + t) c1) (n + t) _ rfl (ho1.alloc _) (some ⟨wr.heap.size, 0, none⟩) 1 1 [.int .i64 0] rfl rfl (.inr ⟨_, rfl, new1 _ _ _⟩) (fun u hu => by simp at hu; subst hu; rfl) hbl hby (by simp; omega) ?_; intro v' w4 ho4 hg4 hv4)
      obtain ⟨A4, c4, rfl⟩ := own_val ho4
      have hga : wr.grownBy (wr.alloc (.cells #[.int .i64 0] 3)) (Value.slice A1 (n + t) c1).ownBlock := World.grownBy_alloc wr _ _
      have hg5 := grown_trans hga hg4
      have hgw : w.grownBy w4 (Value.slice A n c).ownBlock := by
        refine ⟨hg5.os.trans hg1.os, hg5.tape.trans hg1.tape, hg5.output.trans hg1.output, Nat.le_trans hg1.size hg5.size, fun k hk hne => ?_⟩
        rw [hg5.block k (by omega) (fun e => ?_), hg1.block k hk hne]
        rcases hob with h | ⟨k', h1, h2⟩
        · exact hne (e.trans h)
        · rw [h2] at e; have := Option.some.inj e; omega
      go_roundw
      case rel => exact ⟨A4, c4, t + 1, by omega, rfl, by rw [List.replicate_succ', ← List.append_assoc, nI_app, nI_zero]; exact ho4, hgw, by
        rcases hv4 with h | h
        · rcases hob with h' | h'
          · exact .inl (h.trans h')
          · obtain ⟨k', k1, k2⟩ := h'
            exact .inr ⟨k', k1, h.trans k2⟩
        · exact .inr ⟨_, by simp; omega, h⟩⟩
      case measure => simp [sLen]; omega
    · have hnt : n + t = N := by omega
      have hpl : a ++ List.replicate t 0 = plA a b m N 0 := by rw [plA_zero a b m N (by rw [HA.out]; omega), HA.out]; congr 2; omega
      rw [hpl, hnt] at ho1
      have hob' : ∀ g, g < w.heap.size → (Value.slice A n c).ownBlock ≠ some g → (Value.slice A1 N c1).ownBlock ≠ some g := fun g hg hne e => by
        rw [hnt] at hob
        rcases hob with h | ⟨k', k1, k2⟩
        · exact hne (h.symm.trans e)
        · rw [k2] at e; have := Option.some.inj e; omega
      have hobw : ∀ g, g < w.heap.size → (Value.slice A1 N c1).ownBlock = some g → (Value.slice A n c).ownBlock = some g := fun g hg e => by
        rw [hnt] at hob
        rcases hob with h | ⟨k', k1, k2⟩
        · exact h.symm.trans e
        · rw [k2] at e; have := Option.some.inj e; omega
      have HOBL := Lib.hid (show (Value.slice A1 N c1).ownBlock = (Value.slice A n c).ownBlock ∨ ∃ k, w.heap.size ≤ k ∧ (Value.slice A1 N c1).ownBlock = some k by rw [hnt] at hob; exact hob)
      have HOB := Lib.hid hob'
      have HOW := Lib.hid hobw
      have HG1 := Lib.hid hg1
      have HO1 := Lib.hid ho1
      have i1 : ¬ ((n + t : Nat) : Int) < (n2 : Int) + (m : Int) := by omega
      have HNT := Lib.hid hnt
      clear hpl ho1 hob hob' hobw hg1 hnt
      go_wp2_with fail
      rw [HNT.out]
      obtain ⟨wa, rfl⟩ : ∃ wa, wa = wr := ⟨_, rfl⟩
      go_loopw [21] (fun jv w5 => ∃ j : Nat, j ≤ n2 ∧ jv = .int .i64 (j : Int) ∧ w5.ownsRow base 3 1 (.slice A1 N c1) N (nI (plA a b m N j)) ∧ wa.grownBy w5 (Value.slice A1 N c1).ownBlock) (fun jv _ => n2 - (intOf jv).toNat)
      case atStart => exact ⟨0, Nat.zero_le _, rfl, HO1.out, grown_refl _ _⟩
      case round =>
        obtain ⟨j, hj, rfl, ho5, hg5⟩ := hrel
        have hz5 := hg5.size
        have hlo := ho5.1
        by_cases hlt2 : j < n2
        · obtain ⟨u, hu⟩ : ∃ u, b[j]? = some u := ⟨_, List.getElem?_eq_getElem (by rw [HBL.out]; exact hlt2)⟩
          obtain ⟨g2, o2, rfl, hg2, hne2, hc2⟩ := HB.out j u hu
          have hcw : wr.cell? ⟨g2, o2 + j, none⟩ = some (.int .i64 (u : Int)) := by
            rw [← hc2]
            simp only [World.cell?]
            rw [hg5.block g2 (by omega) (fun e => HOB.out g2 hg2 hne2 e.symm), HG1.out.block g2 hg2 (fun e => hne2 e.symm)]
          obtain ⟨g1, rfl⟩ := own_form ho5 (by omega)
          have hjm : j + m < N := by omega
          obtain ⟨x, hx⟩ : ∃ x, a.getD (j + m) 0 = x := ⟨_, rfl⟩
          have hpx : (plA a b m N j)[j + m]? = some x := by rw [plA_get _ _ _ _ _ _ hjm, if_neg (by omega), hx]; rfl
          have e0 : wr.cell? ⟨g1, j + m, none⟩ = some (.int .i64 (x : Int)) := by
            rw [ho5.cellAt (j + m) (by omega)]
            exact nI_get _ _ _ hpx
          have f0 := ho5.frozenAt (j + m)
          have hbu : b.getD j 0 = u := by simp [List.getD, hu]
          have hsum : x + u ≤ 4611686018427387904 := by
            have h1 := HSM.out (j + m)
            have h2 : (addW a b m).getD (j + m) 0 = x + u := by
              rw [← plA_all, List.getD, plA_get _ _ _ _ _ _ (by rw [HBL.out, HA.out]; omega), if_pos (by rw [HBL.out]; omega), hx, show j + m - m = j by omega, hbu]; rfl
            omega
          have HOO := Lib.hid ho5
          have HGG := Lib.hid hg5
          have HSET : Hid ((plA a b m N j).set (j + m) (x + u) = plA a b m N (j + 1)) := Lib.hid (by rw [← plA_set, hx, hbu])
          have j1 : (j : Int) < (n2 : Int) := by omega
          have j0 : (0 : Int) ≤ (j : Int) := by omega
          have j2 : (j : Int) + (m : Int) < (N : Int) := by omega
          clear hu hc2 hx hpx hbu ho5 hg5
          go_wp2_with fail
          obtain ⟨o6, g6⟩ := HOO.out.stored (j + m) (.int .i64 ((x + u : Nat) : Int))
          rw [← nI_set, HSET.out] at o6
          have hg6 := grown_trans HGG.out g6
          go_roundw
          case rel => exact ⟨j + 1, by omega, by go_num, by simpa using o6, by simpa using hg6⟩
          case measure => simp [intOf]; omega
        · obtain rfl : j = n2 := by omega
          have hfin : plA a b m N j = addW a b m := by
            have := plA_all a b m
            rw [HBL.out, HA.out] at this
            rw [← this]
            congr 1
            omega
          rw [hfin] at ho5
          have HOO := Lib.hid ho5
          have HGG := Lib.hid hg5
          clear hfin ho5 hg5
          go_wp2_with fail
          go_ret
          have hwz := HG1.out.size
          refine ⟨A1, c1, by rw [HNL.out]; rfl, by rw [HNL.out]; exact HOO.out, ⟨HGG.out.os.trans HG1.out.os, HGG.out.tape.trans HG1.out.tape, HGG.out.output.trans HG1.out.output, Nat.le_trans HG1.out.size HGG.out.size, fun k hk hne => ?_⟩, by rw [HNL.out]; exact HOBL.out⟩
          rw [HGG.out.block k (by omega) (fun e => hne (HOW.out k hk e.symm).symm), HG1.out.block k hk hne]
end Go.Proofs.Ytebnekicbcdnaaa
