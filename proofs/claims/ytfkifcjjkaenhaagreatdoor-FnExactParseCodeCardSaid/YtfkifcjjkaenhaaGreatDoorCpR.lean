/- A code's text: the program's pieces. -/
import Derived.Test.YtfkifcjjkaenhaaGreatDoorCpQ
import Derived.Test.YtfkifcjjkaenhaaGreatDoorPn
import Derived.Test.YtfkifcjjkaenhaaGreatDoorSSArg
import Derived.Test.YtfkifcjjkaenhaaGreatDoorCodeQ
set_option linter.all false
namespace Go.Proofs.YtfkifcjjkaenhaaGreatDoor
open Go.RowKit

/-- The text between the first opening and the last closing. -/
theorem open_close (l : List UInt8) : (∃ U, l = 40 :: (U ++ [41]) ∧ Lib.hasPrefix l [40] = true ∧ Lib.hasSuffix (Lib.trimPrefix l [40]) [41] = true ∧ Lib.trimSuffix (Lib.trimPrefix l [40]) [41] = U) ∨
    ((∀ M, CdG M → cdt M ≠ l) ∧ (Lib.hasPrefix l [40] = false ∨ (Lib.hasPrefix l [40] = true ∧ Lib.hasSuffix (Lib.trimPrefix l [40]) [41] = false))) := by
  cases l with
  | nil => exact .inr ⟨fun M h e => by have := cdt_3 h; rw [e] at this; simp at this, .inl rfl⟩
  | cons c r =>
    by_cases hc : c = 40
    · subst hc
      have hp : Lib.hasPrefix (40 :: r) [40] = true := by simp [Lib.hasPrefix, List.isPrefixOf]
      have ht : Lib.trimPrefix (40 :: r) [40] = r := by unfold Lib.trimPrefix; rw [if_pos hp]; simp
      rw [ht]
      cases hs : Lib.hasSuffix r [41] with
      | true =>
        obtain ⟨U, hU⟩ := List.isSuffixOf_iff_suffix.1 hs
        refine .inl ⟨U, by rw [hU], hp, rfl, ?_⟩
        unfold Lib.trimSuffix
        rw [if_pos hs, ← hU]; simp
      | false =>
        refine .inr ⟨fun M h e => ?_, .inr ⟨hp, rfl⟩⟩
        rw [cdt_open (cdG_ne h)] at e
        have e2 := (List.cons.inj e).2
        have : Lib.hasSuffix r [41] = true := List.isSuffixOf_iff_suffix.2 ⟨_, e2⟩
        rw [hs] at this; cases this
    · refine .inr ⟨fun M h e => ?_, .inl ?_⟩
      · rw [cdt_open (cdG_ne h)] at e
        exact hc (List.cons.inj e).1.symm
      · have : ¬ (40 : UInt8) = c := fun e => hc e.symm
        simp [Lib.hasPrefix, List.isPrefixOf, this]
theorem splitK2_len (sep : List UInt8) : ∀ (k : Nat) (s : List UInt8), (Lib.splitK sep 0 k s).length ≤ k + 1
  | 0, _ => by simp [Lib.splitK]
  | k + 1, s => by
    unfold Lib.splitK
    split
    · simp
    · have := splitK2_len sep k (s.drop ((Lib.index s sep).toNat + sep.length))
      simp only [List.length_cons] at this ⊢; omega
theorem splitN2_len (sep : List UInt8) {n : Nat} (hn : 1 ≤ n) (s : List UInt8) : (Lib.splitN s sep n).length ≤ min n (s.length + 1) := by
  have := splitK2_len sep (min n (s.length + 1) - 1) s
  unfold Lib.splitN; omega
theorem splitB2_bas (sep : List UInt8) (n : Nat) (l : List UInt8) : Lib.splitB (bas sep) 0 (min n ((bas l).size + 1) - 1) (bas l) = (Lib.splitN l sep n).map bas := by
  have h := Lib.splitB_data (bas sep) 0 (min n ((bas l).size + 1) - 1) (bas l)
  rw [bas_data, bas_data, bas_size] at h
  have h2 := congrArg (List.map bas) h
  rw [List.map_map] at h2
  have e : (bas ∘ fun x : ByteArray => x.data.toList) = id := by funext x; exact data_bas x
  rw [e, List.map_id] at h2
  rw [bas_size]
  exact h2
theorem piece2_len (sep : List UInt8) {xs : List (List UInt8)} : ∀ x ∈ xs, x.length ≤ (Lib.join xs sep).length := by
  induction xs with
  | nil => intro x h; cases h
  | cons y r ih =>
    intro x hx
    cases hr : r with
    | nil => subst hr; rw [Lib.join_one]; obtain rfl : x = y := by simpa using hx
             exact Nat.le_refl _
    | cons z t =>
      rw [← hr, join_cons3 sep y (by rw [hr]; simp)]
      rcases List.mem_cons.1 hx with rfl | h
      · simp
      · have := ih x h; simp; omega
theorem splitN2_any (l sep : List UInt8) (n : Nat) (hl : l.length ≤ 1048576) (hs : 1 ≤ sep.length) (hn : 1 ≤ n ∧ n ≤ 1000) (w : World) (hM : MaxOk w) :
    Calls Tryz.prog 12 #[.string (bas l), .string (bas sep), .int .i64 n] w fun e w' =>
      ∃ c, e = .returned (.slice (some ⟨w.heap.size, 0, none⟩) (Lib.splitN l sep n).length c) ∧ w'.ownsRow w.heap.size 9 1 (.slice (some ⟨w.heap.size, 0, none⟩) (Lib.splitN l sep n).length c) (Lib.splitN l sep n).length (txs (Lib.splitN l sep n)) ∧ Below w.heap.size w w' := by
  obtain ⟨m, hm⟩ := hM
  have hsz := bas_size l
  have h1 := bas_size sep
  refine (Tryz.strings_SplitN (bas l) (bas sep) n m w (by omega) hm (by omega) hn.1 (by omega)).mono ?_
  rintro e w' ⟨rfl, rfl⟩
  rw [splitB2_bas]
  have hle := splitN2_len sep hn.1 l
  rw [← hsz] at hle
  refine ⟨_, by rw [List.length_map], ⟨by simp [txs], .inr ⟨w.heap.size, _, _, rfl, Nat.le_refl _, heap_alloc_new w _, hle, by unfold maxLen; omega, ?_, ?_⟩⟩, (Below.refl _ _).alloc (Nat.le_refl _) _⟩
  · rw [Lib.cellsOf_size (by rw [List.length_map]; exact hle)]; omega
  · unfold Lib.cellsOf
    rw [List.toList_toArray, Nat.mul_one, List.take_append_of_le_length (by simp), List.take_of_length_le (by simp)]
    unfold txs
    rw [List.map_map]; rfl
/-- Numbers as integers. -/
def nti (R : List Nat) : List Int := R.map fun (r : Nat) => (r : Int)
theorem nti_len (R : List Nat) : (nti R).length = R.length := by simp [nti]
theorem nti_nints (R : List Nat) : ints (nti R) = nints R := by simp [nti, ints, nints]
theorem nti_dcs (R : List Nat) : dcs (nti R) = R.map dec := by simp [nti, dcs]
theorem nti_of {g : List Int} (h : ∀ s ∈ g, 0 ≤ s) : nti (g.map Int.toNat) = g := by
  unfold nti
  rw [List.map_map]
  conv => rhs; rw [← List.map_id g]
  exact List.map_congr_left fun s hs => by have := h s hs; show ((s.toNat : Nat) : Int) = s; omega
/-- How many numbers a field is read for. -/
def cn (t : List UInt8) : Nat := min (t.count 44 + 1) 30
theorem nums_grp {M : List (List Int)} (h : CdG M) {g : List Int} (hg : g ∈ M) : Nums 44 (cn (Lib.join (dcs g) [44])) (Lib.join (dcs g) [44]) (g.map Int.toNat) := by
  obtain ⟨h1, h2⟩ := (cdG_parts h).2.2 g hg
  have hne : dcs g ≠ [] := by intro e; have := congrArg List.length e; simp [dcs] at this; subst this; simp at h1
  have hc := cnt_join 44 (dcs g) hne (fun x hx => by obtain ⟨s, _, rfl⟩ := List.mem_map.1 hx; exact dec_no (by decide))
  have hl : (dcs g).length = g.length := by simp [dcs]
  refine ⟨by unfold cn; rw [List.length_map]; omega, ?_, fun r hr => ?_⟩
  · unfold dcs; rw [List.map_map]; rfl
  · obtain ⟨s, hs, rfl⟩ := List.mem_map.1 hr
    have := h2 s hs
    omega
/-- Fields read as groups. -/
def Fld (F : List (List UInt8)) (k : Nat) (N : List (List Int)) : Prop := N.length = k ∧ ∀ j t, j < k → F[j]? = some t → ∃ R, Nums 44 (cn t) t R ∧ N[j]? = some (nti R)
theorem Fld.zero (F : List (List UInt8)) : Fld F 0 [] := ⟨rfl, fun j t h => by omega⟩
theorem Fld.succ {F : List (List UInt8)} {k : Nat} {N : List (List Int)} {t : List UInt8} {R : List Nat} (h : Fld F k N) (ht : F[k]? = some t) (hR : Nums 44 (cn t) t R) : Fld F (k + 1) (N ++ [nti R]) := by
  refine ⟨by simp [h.1], fun j u hj hu => ?_⟩
  by_cases hk : j = k
  · subst hk
    rw [ht] at hu
    cases hu
    exact ⟨R, hR, by rw [List.getElem?_append_right (by rw [h.1]; exact Nat.le_refl _), h.1, Nat.sub_self]; rfl⟩
  · obtain ⟨R', h1, h2⟩ := h.2 j u (by omega) hu
    exact ⟨R', h1, by rw [List.getElem?_append_left (by rw [h.1]; omega)]; exact h2⟩
theorem Fld.fields {F : List (List UInt8)} {N : List (List Int)} (h : Fld F F.length N) : F = N.map fun g => Lib.join (dcs g) [44] := by
  apply List.ext_getElem?
  intro j
  rw [List.getElem?_map]
  by_cases hj : j < F.length
  · obtain ⟨t, ht⟩ : ∃ t, F[j]? = some t := ⟨_, List.getElem?_eq_getElem hj⟩
    obtain ⟨R, h1, h2⟩ := h.2 j t hj ht
    rw [ht, h2, Option.map_some, nti_dcs, ← h1.2.1]
  · rw [List.getElem?_eq_none (by omega), List.getElem?_eq_none (by rw [h.1]; omega)]; rfl
theorem Fld.code {F : List (List UInt8)} {M N : List (List Int)} (h : Fld F F.length N) (hM : CdG M) (e : F = M.map fun g => Lib.join (dcs g) [44]) : N = M := by
  have hl : F.length = M.length := by rw [e]; simp
  apply List.ext_getElem?
  intro j
  by_cases hj : j < F.length
  · obtain ⟨g, hg⟩ : ∃ g, M[j]? = some g := ⟨_, List.getElem?_eq_getElem (by omega)⟩
    have ht : F[j]? = some (Lib.join (dcs g) [44]) := by rw [e, List.getElem?_map, hg]; rfl
    obtain ⟨R, h1, h2⟩ := h.2 j _ hj ht
    have h3 := nums_grp hM (List.mem_of_getElem? hg)
    have e2 := nums_uniq (by decide) (by unfold cn; omega) h1 h3
    rw [h2, hg, e2, nti_of (fun s hs => by have := ((cdG_parts hM).2.2 g (List.mem_of_getElem? hg)).2 s hs; omega)]
  · rw [List.getElem?_eq_none (by rw [h.1]; omega), List.getElem?_eq_none (by omega)]
theorem Fld.wf {F : List (List UInt8)} {N : List (List Int)} (h : Fld F F.length N) : ∀ l ∈ N, ∀ s ∈ l, wfI s := fun l hl s hs => by
  obtain ⟨j, hj⟩ := List.mem_iff_getElem?.1 hl
  have hjl : j < F.length := by have := (List.getElem?_eq_some_iff.1 hj).1; rw [h.1] at this; exact this
  obtain ⟨R, h1, h2⟩ := h.2 j _ hjl (List.getElem?_eq_getElem hjl)
  rw [hj] at h2
  cases h2
  obtain ⟨r, hr, rfl⟩ := List.mem_map.1 hs
  have := h1.2.2 r hr
  unfold wfI; omega
theorem Fld.bad {F : List (List UInt8)} {M : List (List Int)} {k : Nat} {t : List UInt8} (hM : CdG M) (e : F = M.map fun g => Lib.join (dcs g) [44]) (ht : F[k]? = some t) (hno : ∀ R, ¬ Nums 44 (cn t) t R) : False := by
  rw [e, List.getElem?_map] at ht
  cases hg : M[k]? with
  | none => rw [hg] at ht; cases ht
  | some g =>
    rw [hg] at ht
    cases ht
    exact hno _ (nums_grp hM (List.mem_of_getElem? hg))
/-- What ParseCode returns: the code with this text, or nothing. -/
def RetCp (w : World) (l : List UInt8) (e : Ending) (w' : World) : Prop :=
  Below w.heap.size w w' ∧ ((∃ A c, ∃ R : List Rw, e = .returned (.tuple #[.slice A R.length c, .bool true]) ∧ OwnSS w' w.heap.size A R.length c R ∧ CdG (lists R) ∧ cdt (lists R) = l) ∨
    ((∀ M, CdG M → cdt M ≠ l) ∧ e = .returned (.tuple #[.slice none 0 0, .bool false])))
set_option maxRecDepth 100000 in
set_option maxHeartbeats 1000000 in
theorem isCode_any (A : Option Addr) (n c : Nat) (M : List (List Int)) (w : World) (hl : M.length = n) (hn : n ≤ 1048576) (hM : RowsZ w w.heap.size A M) (hwf : ∀ l ∈ M, ∀ s ∈ l, wfI s) :
    Calls Tryz.prog 15 #[.slice A n c] w fun e w' => e = .returned (.bool (codeR M).2.2.2) ∧ Below w.heap.size w w' := by
  have HC := Lib.hid (implCutCode_any A n c M w hl hn hM hwf)
  clear hM hwf
  go_enter Tryz.func15, Tryz.ntmps15
  go_wp2_with fail
  (with_reducible refine HC.out.mono ?_)
  rintro e w2 ⟨A2, c2, rfl, _, hb⟩
  go_wp2_with fail
  go_ret
  exact ⟨rfl, hb.alloc hb.size _⟩
end Go.Proofs.YtfkifcjjkaenhaaGreatDoor
