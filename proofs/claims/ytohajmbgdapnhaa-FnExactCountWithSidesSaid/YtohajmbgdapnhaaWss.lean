/- CountWithSides: the model's. -/
import Derived.Test.YtohajmbgdapnhaaWsi
import Derived.Test.YtohajmbgdapnhaaCtlA
set_option linter.all false
namespace Go.Proofs.Ytohajmbgdapnhaa
open Go.RowKit Go.Shelf

theorem list_ne {α : Type} {M M' : List α} {k : Nat} {l l' : α} (h : M[k]? = some l) (h' : M'[k]? = some l') (hne : l ≠ l') : M ≠ M' := fun e => by
  subst e
  exact hne (Option.some.inj (h.symm.trans h'))
theorem list_eq {α : Type} {M M' : List α} (hlen : M.length = M'.length) (h : ∀ (j : Nat) l l', j < M.length → M[j]? = some l → M'[j]? = some l' → l = l') : M = M' := by
  apply List.ext_getElem?
  intro j
  by_cases hj : j < M.length
  · have h1 := List.getElem?_eq_getElem hj
    have h2 := List.getElem?_eq_getElem (show j < M'.length by omega)
    rw [h1, h2, h j _ _ hj h1 h2]
  · rw [List.getElem?_eq_none (by omega), List.getElem?_eq_none (by omega)]
set_option maxRecDepth 100000 in
set_option maxHeartbeats 4000000 in
theorem l1Same_any (A A' : Option Addr) (c c' : Nat) (l l' : List Int) (w : World) (_hn : l.length ≤ 1048576) (hn' : l'.length ≤ 1048576) (hI : IntsAt w w.heap.size A l) (hI' : IntsAt w w.heap.size A' l') :
    Calls Try.prog 69 #[.slice A l.length c, .slice A' l'.length c'] w (RetB w (l = l')) := by
  by_cases hlen : l.length = l'.length
  · have HLE := Lib.hid hlen
    obtain ⟨m, hm⟩ : ∃ m, l'.length = m := ⟨_, rfl⟩
    have hk2 : l.length = m := hlen.trans hm
    have HM := Lib.hid hm
    rw [hk2] at _hn ⊢
    rw [hm] at hn' ⊢
    clear hlen hm hk2
    have hne : ((m : Int) != (m : Int)) = false := by simp
    go_enter Try.func69, Try.ntmps69
    go_wp2_with fail
    go_loopw [13] (fun i wr => ∃ k : Nat, k ≤ m ∧ i = .int .i64 k ∧ Below w.heap.size w wr ∧ ∀ (j : Nat) s s', j < k → l[j]? = some s → l'[j]? = some s' → s = s') (fun i _ => m - (intOf i).toNat)
    case atStart => exact ⟨0, Nat.zero_le _, rfl, Below.refl _ _, fun j s s' hj => by omega⟩
    case round =>
      obtain ⟨k, hk, rfl, hbr, hin⟩ := hrel
      have HI := Lib.hid hin
      clear hin
      by_cases hlt : k < m
      · obtain ⟨s, hs⟩ : ∃ s, l[k]? = some s := ⟨_, List.getElem?_eq_getElem (by have := HLE.out; have := HM.out; omega)⟩
        obtain ⟨s', hs'⟩ : ∃ s', l'[k]? = some s' := ⟨_, List.getElem?_eq_getElem (by have := HM.out; omega)⟩
        obtain ⟨b, off, rfl, hb, c0⟩ := (hI.below hbr) k s hs
        obtain ⟨b', off', rfl, hb', d0⟩ := (hI'.below hbr) k s' hs'
        have C0 : ∀ u : Later w.heap.size wr, u.val.cell? ⟨b, off + k, none⟩ = some (.int .i64 s) := fun u => (u.ok.cell (p := ⟨b, _, none⟩) hb).trans c0
        have D0 : ∀ u : Later w.heap.size wr, u.val.cell? ⟨b', off' + k, none⟩ = some (.int .i64 s') := fun u => (u.ok.cell (p := ⟨b', _, none⟩) hb').trans d0
        have k0 : (0 : Int) ≤ (k : Int) := by omega
        have k1 : (k : Int) < (m : Int) := by omega
        have HS := Lib.hid hs
        have HS' := Lib.hid hs'
        clear hs hs' hI hI' c0 d0
        cases hq : (s == s')
        · have HQ := Lib.hid hq
          have hq2 : (s != s') = true := by simp [bne, hq]
          clear hq
          go_wp2_with fail
          refine wp_region_sub w.heap.size (by kernel_rfl) (by kernel_rfl) ?_
          repeat (first | go_big_quiet_step (fail) | quiet_step (fail))
          refine wpQuiet_nil ?_
          rintro _ ⟨⟨w2, hb2⟩, rfl⟩
          go_wp2_with fail
          go_ret
          refine RetB.mk (p := l = l') ⟨fun e => by simp at e, fun e => ?_⟩ (hbr.trans hb2)
          have := list_ne HS.out HS'.out (fun e => by have := HQ.out; rw [e] at this; simp at this)
          exact absurd e this
        · have HQ := Lib.hid hq
          have hq2 : (s != s') = false := by simp [bne, hq]
          clear hq
          go_wp2_with fail
          refine wp_region_sub w.heap.size (by kernel_rfl) (by kernel_rfl) ?_
          repeat (first | go_big_quiet_step (fail) | quiet_step (fail))
          refine wpQuiet_nil ?_
          rintro _ ⟨⟨w2, hb2⟩, rfl⟩
          go_wp2_with fail
          go_roundw
          case rel =>
            refine ⟨k + 1, by omega, by go_num, hbr.trans hb2, fun j q q' hj hq hq' => ?_⟩
            by_cases e : j = k
            · subst e
              obtain rfl := Option.some.inj (HS.out.symm.trans hq)
              obtain rfl := Option.some.inj (HS'.out.symm.trans hq')
              exact by simpa using HQ.out
            · exact HI.out j q q' (by omega) hq hq'
          case measure => simp [intOf]; omega
      · obtain rfl : m = k := by omega
        clear hI hI'
        go_wp2_with fail
        go_ret
        exact RetB.mk (p := l = l') ⟨fun _ => list_eq (by rw [HLE.out]) (fun j s s' hj => HI.out j s s' (by have := HLE.out; have := HM.out; omega)), fun _ => rfl⟩ hbr
  · have hne : ((l.length : Int) != (l'.length : Int)) = true := by simp; omega
    have hne' : (l.length != l'.length) = true := by simpa using hlen
    go_enter Try.func69, Try.ntmps69
    go_wp2_with fail
    go_ret
    exact RetB.mk (p := l = l') ⟨fun e => by simp at e, fun e => absurd (congrArg List.length e) hlen⟩ (Below.refl _ _)

theorem ints_one (L : List Int) : ∀ u ∈ ints L, u.oneCell' = true := by
  intro u hu
  unfold ints at hu
  obtain ⟨v, _, rfl⟩ := List.mem_map.1 hu
  rfl
theorem ints_src {w : World} {b off c : Nat} {L : List Int} {n : Nat} (h : ∀ j u, L[j]? = some u → w.cell? ⟨b, off + j, none⟩ = some (.int .i64 u)) : Src w (some ⟨b, off, none⟩) n c (ints L) := .inr ⟨_, rfl, fun j u hu => by
  unfold ints at hu
  rw [List.getElem?_map] at hu
  cases e : L[j]? with
  | none => rw [e] at hu; cases hu
  | some v =>
    rw [e] at hu
    simp only [Option.map_some, Option.some.injEq] at hu
    rw [← hu, add_at]
    exact h j v e⟩
/-- The place where a number is put into a falling list. -/
theorem dsc_uniq {L O : List Int} (hp : O.Perm L) (hs : O.Pairwise (fun a b => b ≤ a)) : O = dsc L := by
  have h1 : (O.reverse).Pairwise (fun a b => (decide (a ≤ b)) = true) := by
    rw [List.pairwise_reverse]
    exact hs.imp fun h => by simpa using h
  have h2 : (L.mergeSort fun x y => decide (x ≤ y)).Pairwise (fun a b => (decide (a ≤ b)) = true) := List.pairwise_mergeSort (fun a b c h1 h2 => by simp at *; omega) (fun a b => by simp; omega) L
  have h3 : O.reverse = L.mergeSort fun x y => decide (x ≤ y) := List.Perm.eq_of_pairwise (le := fun a b => decide (a ≤ b) = true) (fun a b _ _ h1 h2 => by simp at h1 h2; omega) h1 h2 ((List.reverse_perm O).trans (hp.trans (List.mergeSort_perm L _).symm))
  unfold dsc
  rw [← h3, List.reverse_reverse]
theorem dsc_ins {O L : List Int} {u : Int} {k m : Nat} (hO : O.length = k) (hm : m ≤ k) (hp : O.Perm (L.take k)) (hu : L[k]? = some u) (hs : O.Pairwise (fun a b => b ≤ a)) (ha : ∀ (j : Nat) q, m ≤ j → O[j]? = some q → q < u) (hb : ∀ q, 0 < m → O[m - 1]? = some q → u ≤ q) :
    (O.take m ++ u :: O.drop m).Perm (L.take (k + 1)) ∧ (O.take m ++ u :: O.drop m).Pairwise (fun a b => b ≤ a) := by
  refine ⟨?_, ?_⟩
  · rw [List.take_add_one, hu]
    have h1 : (O.take m ++ u :: O.drop m).Perm (u :: O) := by
      have := List.perm_middle (a := u) (l₁ := O.take m) (l₂ := O.drop m)
      rwa [List.take_append_drop] at this
    exact h1.trans ((hp.cons u).trans (List.perm_append_singleton u (L.take k)).symm)
  · have hsp : (O.take m ++ O.drop m).Pairwise (fun a b => b ≤ a) := by rw [List.take_append_drop]; exact hs
    obtain ⟨h1, h2, h3⟩ := List.pairwise_append.1 hsp
    refine List.pairwise_append.2 ⟨h1, List.pairwise_cons.2 ⟨fun b hb' => ?_, h2⟩, fun a ha' b hb' => ?_⟩
    · obtain ⟨j, hj, e⟩ := List.mem_iff_getElem.1 hb'
      have : O[m + j]? = some b := by rw [← e, ← List.getElem?_drop, List.getElem?_eq_getElem hj]
      have := ha (m + j) b (by omega) this
      omega
    · have hau : u ≤ a := by
        obtain ⟨j, hj, e⟩ := List.mem_iff_getElem.1 ha'
        rw [List.length_take] at hj
        have hja : O[j]? = some a := by rw [← e, List.getElem_take, List.getElem?_eq_getElem (by omega)]
        obtain ⟨q, hq⟩ : ∃ q, O[m - 1]? = some q := ⟨_, List.getElem?_eq_getElem (by omega)⟩
        have h4 := hb q (by omega) hq
        by_cases e2 : j = m - 1
        · subst e2; rw [hja] at hq; cases hq; exact h4
        · have := (List.pairwise_iff_getElem.1 hs) j (m - 1) (by omega) (by omega) (by omega)
          rw [List.getElem?_eq_getElem (by omega)] at hja hq
          have e3 := Option.some.inj hja
          have e4 := Option.some.inj hq
          omega
      rcases List.mem_cons.1 hb' with rfl | hb''
      · exact hau
      · exact h3 a ha' b hb''
set_option maxRecDepth 100000 in
set_option maxHeartbeats 2000000 in
theorem l1Own_ints (A : Option Addr) (n c : Nat) (f : List Int) (w : World) (hl : f.length = n) (hn : n ≤ 1000) (hA : A = none → c = 0 ∧ n = 0) (hL : IntsAt w w.heap.size A f) :
    Calls Try.prog 118 #[.slice A n c] w (RetNs w f) := by
  subst hl
  rcases Nat.eq_zero_or_pos f.length with h0 | h0
  · have hf : f = [] := List.eq_nil_of_length_eq_zero h0
    subst hf
    obtain ⟨i0, hi, hz0, hz1, hz2⟩ := info_parts infoInt
    have hs : Src (w.alloc (.cells #[] 3)) A 0 c [] := by
      cases hA' : A with
      | none => obtain ⟨rfl, _⟩ := hA hA'; exact .inl ⟨rfl, rfl, rfl, rfl⟩
      | some a => exact .inr ⟨_, rfl, fun j u hu => by simp at hu⟩
    have HS := Lib.hid hs
    clear hs hA hL
    go_enter Try.func118, Try.ntmps118
    go_wp2_with (at_builtin; refine app_list rfl _ _ _ rfl w.heap.size 3 i0 (.int .i64 0) 1 8 Try.underlying44 hi hz0 hz1 hz2 rfl (by decide) (.slice (some ⟨w.heap.size, 0, none⟩) 0 0) 0 [] rfl (World.ownsRow_lit w #[] 0 (Nat.le_refl _) (Nat.zero_le _) rfl) A 0 c [] rfl rfl HS.out (fun u hu => by simp at hu) (by decide) (by decide) (by simp) ?_; intro v' w1 hown hgr _; have hb1 : Below w.heap.size w w1 := ((Below.refl _ w).alloc (Nat.le_refl _) _).grown hgr (by simp) (fun kk hkk => by simp [Value.ownBlock] at hkk; omega))
    go_ret
    simp only [Nat.zero_add, List.nil_append] at hown
    obtain ⟨A', c', rfl⟩ := own_val hown
    exact ⟨A', c', rfl, hown, hb1⟩
  · refine (l1Own_any A f.length c f w rfl h0 hn hL).mono ?_
    rintro e w' ⟨g', c', rfl, ho, hb⟩
    exact ⟨_, c', rfl, ho, hb⟩
set_option maxRecDepth 100000 in
set_option maxHeartbeats 8000000 in
theorem ctSides_any (A : Option Addr) (n c : Nat) (d : List Int) (w1 : World) (hl : d.length = n) (hn : n ≤ 1000) (hd : IntsAt w1 w1.heap.size A d) :
    Calls Try.prog 68 #[.slice A n c] w1 (RetNs w1 (dsc d)) := by
  subst hl
  obtain ⟨i0, hi, hz0, hz1, hz2⟩ := info_parts infoInt
  obtain ⟨g, hg⟩ : ∃ g, g = w1.heap.size := ⟨_, rfl⟩
  have HG := Lib.hid hg
  rw [← hg] at hd
  have HD := Lib.hid hd
  clear hg hd
  go_enter Try.func68, Try.ntmps68
  go_wp2_with fail
  go_loopw [3, 10] (fun v i wr => ∃ (k : Nat) (O : List Int), k ≤ d.length ∧ i = .int .i64 (k : Int) ∧ O.Perm (d.take k) ∧ O.Pairwise (fun a b => b ≤ a) ∧ (∃ A c, v = .slice A k c ∧ wr.ownsRow g 3 1 (.slice A k c) k (ints O)) ∧ (k = 0 → v = .slice none 0 0) ∧ Below g w1 wr) (fun _ i _ => d.length - (intOf i).toNat)
  case atStart => exact ⟨0, [], Nat.zero_le _, rfl, by simp, List.Pairwise.nil, ⟨none, 0, rfl, World.ownsRow_nil _ _ _ _⟩, fun _ => rfl, Below.refl _ _⟩
  case round =>
    obtain ⟨k, O, hk, rfl, hp, hs, ⟨A6, c6, rfl, hown⟩, hnl, hbr⟩ := hrel
    have hgr : g ≤ wr.heap.size := by have := hbr.size; rw [HG.out]; exact this
    have hOl : O.length = k := by have := hp.length_eq; rw [List.length_take] at this; omega
    by_cases hlt : k < d.length
    · obtain ⟨u, hu⟩ : ∃ u, d[k]? = some u := ⟨_, List.getElem?_eq_getElem hlt⟩
      obtain ⟨b, off, rfl, hb, d0⟩ := HD.out k u hu
      have cu : wr.cell? ⟨b, off + k, none⟩ = some (.int .i64 u) := (hbr.cell (p := ⟨b, off + k, none⟩) hb).trans d0
      have k0 : (0 : Int) ≤ (k : Int) := by omega
      have k1 : (k : Int) < (d.length : Int) := by omega
      have HP := Lib.hid hp
      have HS := Lib.hid hs
      have HU := Lib.hid hu
      have HOL := Lib.hid hOl
      have HOWN := Lib.hid hown
      have hcap := own_cap hown
      clear hp hs hu hOl d0 hown
      go_wp2_with fail
      obtain ⟨wo, rfl⟩ : ∃ wo : World, wo = wr := ⟨_, rfl⟩
      go_loopw [6] (fun kv wi => ∃ m : Nat, m ≤ k ∧ kv = .int .i64 (m : Int) ∧ wi = wo ∧ (∀ (j : Nat) q, m ≤ j → O[j]? = some q → q < u)) (fun kv _ => (intOf kv).toNat)
      case atStart => exact ⟨k, Nat.le_refl _, rfl, rfl, fun j q hj hq => by rw [List.getElem?_eq_none (by have := HOL.out; omega)] at hq; cases hq⟩
      case round =>
        obtain ⟨m, hm, rfl, hwi, hin⟩ := hrel
        subst hwi
        have hIn := Lib.hid hin
        clear hin
        rcases Nat.eq_zero_or_pos k with hk0 | hk0
        · have hv := hnl hk0
          simp only [Value.slice.injEq] at hv
          obtain ⟨rfl, _, rfl⟩ := hv
          subst hk0
          obtain rfl : m = 0 := by omega
          have hO : O = [] := List.eq_nil_of_length_eq_zero HOL.out
          subst hO
          have hdec : decide ((0 : Int) < ((0 : Nat) : Int)) = false := by decide
          have INS := Lib.hid (dsc_ins HOL.out (Nat.zero_le _) HP.out HU.out HS.out hIn.out (fun q h => by omega))
          have CO := Lib.hid (fun V (hb' : Below wr.heap.size wr V) => l1Own_ints none 0 0 [] V rfl (by decide) (fun _ => ⟨rfl, rfl⟩) (fun j s h => by simp at h))
          clear hnl
          have LM := Lib.hid (show 0 ≤ 0 from Nat.le_refl _)
          have HLD := Lib.hid (show (ints (([] : List Int).drop 0)).length = 0 * 1 by rfl)
          go_wp2_with fail
          (with_reducible refine (CO.out _ (Below.refl _ _)).mono ?_)
          rintro e w2 ⟨A2, c2, rfl, ho2, hb2⟩
          have hs2 := hb2.size
          have ho2' := own_base ho2 hgr
          have hlm := LM.out
          have HO2 := Lib.hid ho2'
          have hgg : g ≤ w2.heap.size := by omega
          have hr1 : 1 ≤ maxLen := by unfold maxLen; omega
          have hr2 : (1) * 8 ≤ 140737488355328 := by omega
          have hr3 : 1 + (0) ≤ maxLen := by unfold maxLen; omega
          have hr4 : (1 + (0)) * 8 ≤ 140737488355328 := by omega
          clear ho2' hlm
          go_wp2_with (first
            | (at_builtin
               refine app_list rfl _ _ _ rfl g 3 i0 (.int .i64 0) 1 8 Try.underlying44 hi hz0 hz1 hz2 rfl (by decide) (.slice A2 0 c2) 0 _ rfl (HO2.out.alloc _) (some ⟨w2.heap.size, 0, none⟩) 1 1 [.int .i64 u] rfl rfl (.inr ⟨_, rfl, new1 _ _ _⟩) (one1 _ rfl) hr1 hr2 (by simp; omega) ?_
               intro v3 w3 hown3 hgrow3 _
               obtain ⟨A3, c3, rfl⟩ := own_val hown3
               have hb3 : Below g w2 w3 := ((Below.refl g w2).alloc hgg _).grown hgrow3 (by simp; omega) (fun kk hkk => (HO2.out.lt kk hkk).1)
               have hs3 := hb3.size
               have hB3 : Below g w1 w3 := (hbr.trans (hb2.mono hgr)).trans hb3
               have HO3 := Lib.hid hown3
               have hgg3 : g ≤ w3.heap.size := by omega
               have hsrc : ∀ x : Nat, Src w3 none 0 0 (ints (([] : List Int).drop 0)) := fun _ => .inl ⟨rfl, rfl, rfl, rfl⟩
               clear hgrow3 hown3)
            | (at_builtin
               refine app_list rfl _ _ _ rfl g 3 i0 (.int .i64 0) 1 8 Try.underlying44 hi hz0 hz1 hz2 rfl (by decide) (.slice A3 (1) c3) (1) _ rfl HO3.out _ (0) _ (ints (([] : List Int).drop 0)) rfl HLD.out (hsrc 0) (ints_one _) hr3 hr4 hgg3 ?_
               intro v4 w4 hown4 hgrow4 _
               obtain ⟨A4, c4, rfl⟩ := own_val hown4))
          have hB4 : Below g w1 w4 := hB3.grown hgrow4 hgg3 (fun kk hkk => (HO3.out.lt kk hkk).1)
          have hO4 : w4.ownsRow g 3 1 (.slice A4 (0 + 1) c4) (0 + 1) (ints (([] : List Int).take 0 ++ u :: ([] : List Int).drop 0)) := by
            have e1 : 1 + (0) = 0 + 1 := by omega
            have e2 : ints (([] : List Int).take 0) ++ [.int .i64 u] ++ ints (([] : List Int).drop 0) = ints (([] : List Int).take 0 ++ u :: ([] : List Int).drop 0) := by simp [ints]
            rw [e1] at hown4
            simpa [ints] using hown4
          have HO4 := Lib.hid hO4
          have e1 : 1 + (0) = 0 + 1 := by omega
          try rw [e1]
          clear hgrow4 hown4 hO4 hsrc
          go_wp2_with fail
          go_roundw
          case rel => exact ⟨0 + 1, ([] : List Int).take 0 ++ u :: ([] : List Int).drop 0, by omega, by go_num, INS.out.1, INS.out.2, ⟨_, _, rfl, HO4.out⟩, fun h => by omega, hB4⟩
          case measure => simp [intOf]; omega
        · obtain ⟨g6, rfl⟩ := own_form HOWN.out hk0
          clear hnl
          by_cases hgo : 0 < m ∧ ∀ q, O[m - 1]? = some q → q < u
          · obtain ⟨h0, hall⟩ := hgo
            obtain ⟨q, hq⟩ : ∃ q, O[m - 1]? = some q := ⟨_, List.getElem?_eq_getElem (by have := HOL.out; omega)⟩
            have hqu := hall q hq
            have qc : wr.cell? ⟨g6, m - 1, none⟩ = some (.int .i64 q) := by
              rw [HOWN.out.cellAt (m - 1) (by omega)]
              simp [ints, hq]
            have hd1 : decide (q < u) = true := decide_eq_true hqu
            have e1 : IntKind.i64.wrap ((m : Int) - 1) = (m : Int) - 1 := IntWalk.i64_in _ (by omega)
            have e2 : (0 : Int) ≤ (m : Int) - 1 := by omega
            have e3 : ((m : Int) - 1).toNat = m - 1 := by omega
            have e4 : (m : Int) - 1 < (k : Int) := by omega
            have hd : decide ((0 : Int) < (m : Int)) = true := by rw [decide_eq_true_iff]; omega
            have HQ := Lib.hid hq
            clear hq hall
            go_wp2_with fail
            go_roundw
            case rel =>
              refine ⟨m - 1, by omega, ?_, by trivial, fun j q' hj hq' => ?_⟩
              · go_num
              · by_cases e : j = m - 1
                · subst e
                  obtain rfl := Option.some.inj (HQ.out.symm.trans hq')
                  exact hqu
                · exact hIn.out j q' (by omega) hq'
            case measure => simp [intOf]; omega
          · have hst : ∀ q, 0 < m → O[m - 1]? = some q → u ≤ q := by
              intro q h0 hq
              by_cases h : q < u
              · exact absurd ⟨h0, fun q' hq' => by rw [hq] at hq'; cases hq'; exact h⟩ hgo
              · omega
            have INS := Lib.hid (dsc_ins HOL.out hm HP.out HU.out HS.out hIn.out hst)
            have hml : (O.take m).length = m := by rw [List.length_take]; have := HOL.out; omega
            have CO0 := (fun V (hb' : Below wr.heap.size wr V) => l1Own_ints (some ⟨g6, 0, none⟩) m c6 (O.take m) V (by rw [List.length_take]; have := HOL.out; omega) (by omega) (fun h => by cases h) (fun j s h => by
              have hj : j < m := by
                have := (List.getElem?_eq_some_iff.1 h).1
                rw [List.length_take] at this
                omega
              rw [List.getElem?_take_of_lt hj] at h
              obtain ⟨b9, off9, e9, hb9, hc9⟩ := ((ints_of_own HOWN.out).below hb') j s h
              exact ⟨b9, off9, e9, Nat.lt_of_lt_of_le hb9 hb'.size, hc9⟩))
            unfold RetNs at CO0
            simp only [hml] at CO0
            have CO := Lib.hid CO0
            clear CO0 hml
            have LM := Lib.hid (show m ≤ k from hm)
            have HLD := Lib.hid (show (ints (O.drop m)).length = (k - m) * 1 by simp [ints, HOL.out])
            have hmc : m ≤ c6 := by omega
            have m0 : (0 : Int) ≤ (m : Int) := by omega
            have mk : (m : Int) ≤ (k : Int) := by omega
            have kc : (k : Int) ≤ (c6 : Int) := by omega
            rcases Nat.eq_zero_or_pos m with hm0 | hm0
            · subst hm0
              have hdec : decide ((0 : Int) < ((0 : Nat) : Int)) = false := by decide
              go_wp2_with fail
              have hcm : ¬ c6 = 0 := by omega
              (with_reducible refine (CO.out _ (Below.refl _ _)).mono ?_)
              rintro e w2 ⟨A2, c2, rfl, ho2, hb2⟩
              have hs2 := hb2.size
              have ho2' := own_base ho2 hgr
              have hlm := LM.out
              have HO2 := Lib.hid ho2'
              have hgg : g ≤ w2.heap.size := by omega
              have hr1 : 1 ≤ maxLen := by unfold maxLen; omega
              have hr2 : (1) * 8 ≤ 140737488355328 := by omega
              have hr3 : 1 + (k) ≤ maxLen := by unfold maxLen; omega
              have hr4 : (1 + (k)) * 8 ≤ 140737488355328 := by omega
              clear ho2' hlm
              go_wp2_with (first
                | (at_builtin
                   refine app_list rfl _ _ _ rfl g 3 i0 (.int .i64 0) 1 8 Try.underlying44 hi hz0 hz1 hz2 rfl (by decide) (.slice A2 0 c2) 0 _ rfl (HO2.out.alloc _) (some ⟨w2.heap.size, 0, none⟩) 1 1 [.int .i64 u] rfl rfl (.inr ⟨_, rfl, new1 _ _ _⟩) (one1 _ rfl) hr1 hr2 (by simp; omega) ?_
                   intro v3 w3 hown3 hgrow3 _
                   obtain ⟨A3, c3, rfl⟩ := own_val hown3
                   have hb3 : Below g w2 w3 := ((Below.refl g w2).alloc hgg _).grown hgrow3 (by simp; omega) (fun kk hkk => (HO2.out.lt kk hkk).1)
                   have hs3 := hb3.size
                   have hB3 : Below g w1 w3 := (hbr.trans (hb2.mono hgr)).trans hb3
                   have HO3 := Lib.hid hown3
                   have hgg3 : g ≤ w3.heap.size := by omega
                   have HB23 := Lib.hid ((Below.refl w2.heap.size w2).alloc (Nat.le_refl _) (.cells #[.int .i64 u] 3))
                   have own2 := own_keep HOWN.out hb2
                   have own3 : w3.ownsRow g 3 1 (.slice (some ⟨g6, 0, none⟩) k c6) k (ints O) := own_far (own2.alloc _) hgrow3 (fun kk hkk e => by
                     have h1 := (HOWN.out.lt kk hkk).2
                     have h2 := (ho2.lt kk e).1
                     omega)
                   have hsrc : ∀ x : Nat, Src w3 (some ⟨g6, 0, none⟩) (k) x (ints (O.drop 0)) := fun _ => ints_src fun j v hj => by
                     have hj2 : O[0 + j]? = some v := by rw [← List.getElem?_drop]; exact hj
                     have hlt2 := (List.getElem?_eq_some_iff.1 hj2).1
                     have hj3 : (ints O)[0 + j]? = some (.int .i64 v) := by unfold ints; rw [List.getElem?_map, hj2]; rfl
                     exact (own3.cellAt (0 + j) (by have := HOL.out; omega)).trans hj3
                   clear hgrow3 hown3)
                | (at_builtin
                   refine app_list rfl _ _ _ rfl g 3 i0 (.int .i64 0) 1 8 Try.underlying44 hi hz0 hz1 hz2 rfl (by decide) (.slice A3 (1) c3) (1) _ rfl HO3.out _ (k) _ (ints (O.drop 0)) rfl HLD.out (hsrc _) (ints_one _) hr3 hr4 hgg3 ?_
                   intro v4 w4 hown4 hgrow4 _
                   obtain ⟨A4, c4, rfl⟩ := own_val hown4))
              have hB4 : Below g w1 w4 := hB3.grown hgrow4 hgg3 (fun kk hkk => (HO3.out.lt kk hkk).1)
              have hO4 : w4.ownsRow g 3 1 (.slice A4 (k + 1) c4) (k + 1) (ints (O.take 0 ++ u :: O.drop 0)) := by
                have e1 : 1 + (k) = k + 1 := by omega
                have e2 : ints (O.take 0) ++ [.int .i64 u] ++ ints (O.drop 0) = ints (O.take 0 ++ u :: O.drop 0) := by simp [ints]
                rw [e1, e2] at hown4
                exact hown4
              have HO4 := Lib.hid hO4
              have e1 : 1 + (k) = k + 1 := by omega
              try rw [e1]
              clear hgrow4 hown4 hO4 hsrc
              go_wp2_with fail
              go_roundw
              case rel => exact ⟨k + 1, O.take 0 ++ u :: O.drop 0, by omega, by go_num, INS.out.1, INS.out.2, ⟨_, _, rfl, HO4.out⟩, fun h => by omega, hB4⟩
              case measure => simp [intOf]; omega
            · obtain ⟨q, hq⟩ : ∃ q, O[m - 1]? = some q := ⟨_, List.getElem?_eq_getElem (by have := HOL.out; omega)⟩
              have hqu := hst q hm0 hq
              have qc : wr.cell? ⟨g6, m - 1, none⟩ = some (.int .i64 q) := by
                rw [HOWN.out.cellAt (m - 1) (by omega)]
                simp [ints, hq]
              have hd1 : decide (q < u) = false := by rw [decide_eq_false_iff_not]; omega
              have e1 : IntKind.i64.wrap ((m : Int) - 1) = (m : Int) - 1 := IntWalk.i64_in _ (by omega)
              have e2 : (0 : Int) ≤ (m : Int) - 1 := by omega
              have e3 : ((m : Int) - 1).toNat = m - 1 := by omega
              have e4 : (m : Int) - 1 < (k : Int) := by omega
              have hd : decide ((0 : Int) < (m : Int)) = true := by rw [decide_eq_true_iff]; omega
              clear hq
              go_wp2_with fail
              by_cases hcm : c6 = m
              · (with_reducible refine (CO.out _ (Below.refl _ _)).mono ?_)
                rintro e w2 ⟨A2, c2, rfl, ho2, hb2⟩
                have hs2 := hb2.size
                have ho2' := own_base ho2 hgr
                have hlm := LM.out
                have HO2 := Lib.hid ho2'
                have hgg : g ≤ w2.heap.size := by omega
                have hr1 : m + 1 ≤ maxLen := by unfold maxLen; omega
                have hr2 : (m + 1) * 8 ≤ 140737488355328 := by omega
                have hr3 : m + 1 + (k - m) ≤ maxLen := by unfold maxLen; omega
                have hr4 : (m + 1 + (k - m)) * 8 ≤ 140737488355328 := by omega
                clear ho2' hlm
                go_wp2_with (first
                  | (at_builtin
                     refine app_list rfl _ _ _ rfl g 3 i0 (.int .i64 0) 1 8 Try.underlying44 hi hz0 hz1 hz2 rfl (by decide) (.slice A2 m c2) m _ rfl (HO2.out.alloc _) (some ⟨w2.heap.size, 0, none⟩) 1 1 [.int .i64 u] rfl rfl (.inr ⟨_, rfl, new1 _ _ _⟩) (one1 _ rfl) hr1 hr2 (by simp; omega) ?_
                     intro v3 w3 hown3 hgrow3 _
                     obtain ⟨A3, c3, rfl⟩ := own_val hown3
                     have hb3 : Below g w2 w3 := ((Below.refl g w2).alloc hgg _).grown hgrow3 (by simp; omega) (fun kk hkk => (HO2.out.lt kk hkk).1)
                     have hs3 := hb3.size
                     have hB3 : Below g w1 w3 := (hbr.trans (hb2.mono hgr)).trans hb3
                     have HO3 := Lib.hid hown3
                     have hgg3 : g ≤ w3.heap.size := by omega
                     have HB23 := Lib.hid ((Below.refl w2.heap.size w2).alloc (Nat.le_refl _) (.cells #[.int .i64 u] 3))
                     have own2 := own_keep HOWN.out hb2
                     have own3 : w3.ownsRow g 3 1 (.slice (some ⟨g6, 0, none⟩) k c6) k (ints O) := own_far (own2.alloc _) hgrow3 (fun kk hkk e => by
                       have h1 := (HOWN.out.lt kk hkk).2
                       have h2 := (ho2.lt kk e).1
                       omega)
                     have hsrc : ∀ x : Nat, Src w3 (some ⟨g6, 0, none⟩) (k - m) x (ints (O.drop m)) := fun _ => .inr ⟨_, rfl, fun j v hj => by have := (List.getElem?_eq_some_iff.1 hj).1; rw [HLD.out] at this; omega⟩
                     clear hgrow3 hown3)
                  | (at_builtin
                     refine app_list rfl _ _ _ rfl g 3 i0 (.int .i64 0) 1 8 Try.underlying44 hi hz0 hz1 hz2 rfl (by decide) (.slice A3 (m + 1) c3) (m + 1) _ rfl HO3.out _ (k - m) _ (ints (O.drop m)) rfl HLD.out (hsrc _) (ints_one _) hr3 hr4 hgg3 ?_
                     intro v4 w4 hown4 hgrow4 _
                     obtain ⟨A4, c4, rfl⟩ := own_val hown4))
                have hB4 : Below g w1 w4 := hB3.grown hgrow4 hgg3 (fun kk hkk => (HO3.out.lt kk hkk).1)
                have hO4 : w4.ownsRow g 3 1 (.slice A4 (k + 1) c4) (k + 1) (ints (O.take m ++ u :: O.drop m)) := by
                  have e1 : m + 1 + (k - m) = k + 1 := by omega
                  have e2 : ints (O.take m) ++ [.int .i64 u] ++ ints (O.drop m) = ints (O.take m ++ u :: O.drop m) := by simp [ints]
                  rw [e1, e2] at hown4
                  exact hown4
                have HO4 := Lib.hid hO4
                have e1 : m + 1 + (k - m) = k + 1 := by omega
                try rw [e1]
                clear hgrow4 hown4 hO4 hsrc
                go_wp2_with fail
                go_roundw
                case rel => exact ⟨k + 1, O.take m ++ u :: O.drop m, by omega, by go_num, INS.out.1, INS.out.2, ⟨_, _, rfl, HO4.out⟩, fun h => by omega, hB4⟩
                case measure => simp [intOf]; omega
              · (with_reducible refine (CO.out _ (Below.refl _ _)).mono ?_)
                rintro e w2 ⟨A2, c2, rfl, ho2, hb2⟩
                have hs2 := hb2.size
                have ho2' := own_base ho2 hgr
                have hlm := LM.out
                have HO2 := Lib.hid ho2'
                have hgg : g ≤ w2.heap.size := by omega
                have hr1 : m + 1 ≤ maxLen := by unfold maxLen; omega
                have hr2 : (m + 1) * 8 ≤ 140737488355328 := by omega
                have hr3 : m + 1 + (k - m) ≤ maxLen := by unfold maxLen; omega
                have hr4 : (m + 1 + (k - m)) * 8 ≤ 140737488355328 := by omega
                clear ho2' hlm
                go_wp2_with (first
                  | (at_builtin
                     refine app_list rfl _ _ _ rfl g 3 i0 (.int .i64 0) 1 8 Try.underlying44 hi hz0 hz1 hz2 rfl (by decide) (.slice A2 m c2) m _ rfl (HO2.out.alloc _) (some ⟨w2.heap.size, 0, none⟩) 1 1 [.int .i64 u] rfl rfl (.inr ⟨_, rfl, new1 _ _ _⟩) (one1 _ rfl) hr1 hr2 (by simp; omega) ?_
                     intro v3 w3 hown3 hgrow3 _
                     obtain ⟨A3, c3, rfl⟩ := own_val hown3
                     have hb3 : Below g w2 w3 := ((Below.refl g w2).alloc hgg _).grown hgrow3 (by simp; omega) (fun kk hkk => (HO2.out.lt kk hkk).1)
                     have hs3 := hb3.size
                     have hB3 : Below g w1 w3 := (hbr.trans (hb2.mono hgr)).trans hb3
                     have HO3 := Lib.hid hown3
                     have hgg3 : g ≤ w3.heap.size := by omega
                     have HB23 := Lib.hid ((Below.refl w2.heap.size w2).alloc (Nat.le_refl _) (.cells #[.int .i64 u] 3))
                     have own2 := own_keep HOWN.out hb2
                     have own3 : w3.ownsRow g 3 1 (.slice (some ⟨g6, 0, none⟩) k c6) k (ints O) := own_far (own2.alloc _) hgrow3 (fun kk hkk e => by
                       have h1 := (HOWN.out.lt kk hkk).2
                       have h2 := (ho2.lt kk e).1
                       omega)
                     have hsrc : ∀ x : Nat, Src w3 (some ⟨g6, m, none⟩) (k - m) x (ints (O.drop m)) := fun _ => ints_src fun j v hj => by
                       have hj2 : O[m + j]? = some v := by rw [← List.getElem?_drop]; exact hj
                       have hlt2 := (List.getElem?_eq_some_iff.1 hj2).1
                       have hj3 : (ints O)[m + j]? = some (.int .i64 v) := by unfold ints; rw [List.getElem?_map, hj2]; rfl
                       exact (own3.cellAt (m + j) (by have := HOL.out; omega)).trans hj3
                     clear hgrow3 hown3)
                  | (at_builtin
                     refine app_list rfl _ _ _ rfl g 3 i0 (.int .i64 0) 1 8 Try.underlying44 hi hz0 hz1 hz2 rfl (by decide) (.slice A3 (m + 1) c3) (m + 1) _ rfl HO3.out _ (k - m) _ (ints (O.drop m)) rfl HLD.out (hsrc _) (ints_one _) hr3 hr4 hgg3 ?_
                     intro v4 w4 hown4 hgrow4 _
                     obtain ⟨A4, c4, rfl⟩ := own_val hown4))
                have hB4 : Below g w1 w4 := hB3.grown hgrow4 hgg3 (fun kk hkk => (HO3.out.lt kk hkk).1)
                have hO4 : w4.ownsRow g 3 1 (.slice A4 (k + 1) c4) (k + 1) (ints (O.take m ++ u :: O.drop m)) := by
                  have e1 : m + 1 + (k - m) = k + 1 := by omega
                  have e2 : ints (O.take m) ++ [.int .i64 u] ++ ints (O.drop m) = ints (O.take m ++ u :: O.drop m) := by simp [ints]
                  rw [e1, e2] at hown4
                  exact hown4
                have HO4 := Lib.hid hO4
                have e1 : m + 1 + (k - m) = k + 1 := by omega
                try rw [e1]
                clear hgrow4 hown4 hO4 hsrc
                go_wp2_with fail
                go_roundw
                case rel => exact ⟨k + 1, O.take m ++ u :: O.drop m, by omega, by go_num, INS.out.1, INS.out.2, ⟨_, _, rfl, HO4.out⟩, fun h => by omega, hB4⟩
                case measure => simp [intOf]; omega
    · obtain rfl : k = d.length := by omega
      rw [List.take_length] at hp
      have hO := dsc_uniq hp hs
      subst hO
      have hll := dsc_len d
      have HOWN := Lib.hid hown
      clear hp hs hown hnl
      go_wp2_with fail
      go_ret
      unfold RetNs
      rw [hll, ← HG.out]
      exact ⟨A6, c6, rfl, HOWN.out, hbr⟩
set_option maxRecDepth 100000 in
set_option maxHeartbeats 4000000 in
theorem ctList_any (W H : Int) (A : Option Addr) (n c : Nat) (L : List Sq) (w : World) (hl : L.length = n) (hn : n ≤ 1000) (hL : SqsAt w w.heap.size A L) :
    Calls Try.prog 70 #[.agg #[.int .i64 W, .int .i64 H, .slice A n c]] w (RetNs w (dsc (sides L))) := by
  subst hl
  obtain ⟨w1, hw1⟩ : ∃ w1, w1 = w.alloc (.cells #[.int .i64 W, .int .i64 H, .slice A L.length c] 30) := ⟨_, rfl⟩
  have hb1 : Below w.heap.size w w1 := by rw [hw1]; exact (Below.refl _ _).alloc (Nat.le_refl _) _
  have hq := (hL.below hb1).mono hb1.size
  obtain ⟨j0, hj, hy0, hy1, hy2⟩ := info_parts infoInt
  obtain ⟨g, hg⟩ : ∃ g, g = w1.heap.size := ⟨_, rfl⟩
  rw [← hg] at hq
  have HG := Lib.hid hg
  have hwg : w.heap.size ≤ g := by rw [hg]; exact hb1.size
  have hsl := sides_len L
  have HSL := Lib.hid hsl
  clear hL hg hsl
  go_enter Try.func70, Try.ntmps70
  go_wp2_with fail
  rw [← hw1]
  clear hw1
  go_loopw [3, 9] (fun v i wr => ∃ k : Nat, k ≤ L.length ∧ i = .int .i64 (k : Int) ∧ Below g w1 wr ∧ ∃ A c, v = .slice A k c ∧ wr.ownsRow g 3 1 (.slice A k c) k (ints (sides (L.take k)))) (fun _ i _ => L.length - (intOf i).toNat)
  case atStart => exact ⟨0, Nat.zero_le _, rfl, Below.refl _ _, none, 0, rfl, World.ownsRow_nil _ _ _ _⟩
  case round =>
    obtain ⟨k, hk, rfl, hbr, A2, c2, rfl, hown⟩ := hrel
    have hgs : g ≤ wr.heap.size := by have := hbr.size; rw [HG.out]; exact this
    by_cases hlt : k < L.length
    · obtain ⟨s, hs⟩ : ∃ s, L[k]? = some s := ⟨_, List.getElem?_eq_getElem hlt⟩
      obtain ⟨b, off, rfl, hb, c0, c1, c2'⟩ := (hq.below hbr) k s hs
      have HS := Lib.hid hs
      have k0 : (0 : Int) ≤ (k : Int) := by omega
      have k1 : (k : Int) < (L.length : Int) := by omega
      clear hs hq
      go_wp2_with (at_builtin; refine wpList_append_own _ rfl _ _ 44 rfl g 3 j0 (.int .i64 0) 1 8 Try.underlying44 hj hy0 hy1 hy2 rfl (by decide) _ _ _ rfl ((hown.alloc _).alloc _) ⟨wr.heap.size + 1, 0, none⟩ 1 1 [.int .i64 s.d] rfl rfl ?c1 ?c2 ?c3 ?c4 ?c5 ?_)
      case c1 =>
        intro j u hj
        match j, hj with
        | 0, hj => simp at hj; subst hj; simp [Addr.add]
      case c2 => intro u hu; simp at hu; subst hu; rfl
      case c3 => unfold maxLen; omega
      case c4 => omega
      case c5 => simp <;> omega
      intro v' w2 hown2 hgrow _
      obtain ⟨A3, c3, rfl⟩ := own_val hown2
      have hB2 : Below g w1 w2 := ((hbr.alloc hgs _).alloc (by simp <;> omega) _).grown hgrow (by simp <;> omega) (fun kk hkk => (hown.lt kk hkk).1)
      have HO : Hid (w2.ownsRow g 3 1 (.slice A3 (k + 1) c3) (k + 1) (ints (sides (L.take (k + 1))))) := by
        show w2.ownsRow _ _ _ _ _ _
        rw [sides_take_succ L k s HS.out, ints_app]
        exact hown2
      clear hown hown2 hgrow
      go_wp2_with fail
      go_roundw
      case rel => exact ⟨k + 1, by omega, by go_num, hB2, A3, c3, rfl, HO.out⟩
      case measure => simp [intOf]; omega
    · obtain rfl : k = L.length := by omega
      rw [List.take_length] at hown
      have CS := ctSides_any A2 L.length c2 (sides L) wr HSL.out hn (ints_of_own hown)
      have HCS := Lib.hid CS
      clear hown hq CS
      go_wp2_with fail
      (with_reducible refine HCS.out.mono ?_)
      rintro e w4 ⟨A4, c4, rfl, ho4, hb4⟩
      go_wp2_with fail
      go_ret
      have hB := hb1.trans (hbr.mono hwg)
      exact ⟨A4, c4, rfl, own_base ho4 hB.size, hB.trans (hb4.mono hB.size)⟩
end Go.Proofs.Ytohajmbgdapnhaa
