/- Sorting squares, and cuts that are turned, mirrored and grown: plain mathematics. -/
import Derived.Test.YtebnekicbcdnaaaGood
set_option linter.all false
namespace Go.Proofs.Ytebnekicbcdnaaa
open Go.RowKit

instance lessDec (x y x' y' : Int) : Decidable (Less x y x' y') := by unfold Less; infer_instance
/-- One square comes before another one. -/
def lt2 (a b : Sq) : Prop := Less a.x a.y b.x b.y
instance lt2Dec (a b : Sq) : Decidable (lt2 a b) := by unfold lt2; infer_instance
def leB (a b : Sq) : Bool := !decide (lt2 b a)
theorem leB_iff {a b : Sq} : leB a b = true ↔ ¬ lt2 b a := by simp [leB]
theorem lt2_trans {a b c : Sq} (h : lt2 a b) (k : lt2 b c) : lt2 a c := by unfold lt2 Less at *; omega
theorem lt2_irrefl {a b : Sq} (h : lt2 a b) (k : lt2 b a) : False := by unfold lt2 Less at *; omega
theorem leB_trans (a b c : Sq) (h : leB a b = true) (k : leB b c = true) : leB a c = true := by
  rw [leB_iff] at *; unfold lt2 Less at *; omega
theorem leB_total (a b : Sq) : (leB a b || leB b a) = true := by
  rw [Bool.or_eq_true, leB_iff, leB_iff]; unfold lt2 Less; omega
theorem leB_of_lt {a b : Sq} (h : lt2 a b) : leB a b = true := leB_iff.2 fun k => lt2_irrefl h k
/-- Squares in their order. -/
def srt (L : List Sq) : List Sq := L.mergeSort leB
theorem srt_perm (L : List Sq) : (srt L).Perm L := List.mergeSort_perm L _
theorem srt_len (L : List Sq) : (srt L).length = L.length := (srt_perm L).length_eq
theorem srt_pair (L : List Sq) : (srt L).Pairwise (fun a b => leB a b = true) := List.pairwise_mergeSort leB_trans leB_total L
/-- No two squares have the same corner. -/
def Dist (L : List Sq) : Prop := ∀ s ∈ L, ∀ t ∈ L, s.x = t.x → s.y = t.y → s = t
theorem Dist.perm {L M : List Sq} (h : Dist L) (hp : M.Perm L) : Dist M := fun s hs t ht => h s (hp.mem_iff.1 hs) t (hp.mem_iff.1 ht)
/-- However squares with different corners are sorted: it comes to the same. -/
theorem srt_uniq {L R : List Sq} (hp : R.Perm L) (hs : R.Pairwise (fun a b => leB a b = true)) (hd : Dist L) : R = srt L := by
  refine List.Perm.eq_of_pairwise (le := fun a b => leB a b = true) (fun a b ha hb h1 h2 => ?_) hs (srt_pair L) (hp.trans (srt_perm L).symm)
  have h1' := leB_iff.1 h1
  have h2' := leB_iff.1 h2
  refine hd a (hp.mem_iff.1 ha) b ((srt_perm L).mem_iff.1 hb) ?_ ?_ <;> (unfold lt2 Less at *; omega)
theorem srt_of {L : List Sq} (h : L.Pairwise lt2) : srt L = L := List.mergeSort_of_pairwise (h.imp fun k => leB_of_lt k)

theorem pair_of_adj : ∀ (L : List Sq), (∀ (i : Nat) s t, L[i]? = some s → L[i + 1]? = some t → lt2 s t) → L.Pairwise lt2
  | [], _ => List.Pairwise.nil
  | [a], _ => by simp
  | a :: b :: r, h => by
    have ih := pair_of_adj (b :: r) (fun i s t hs ht => h (i + 1) s t (by simpa using hs) (by simpa using ht))
    have hab := h 0 a b rfl rfl
    refine List.pairwise_cons.2 ⟨fun c hc => ?_, ih⟩
    rcases List.mem_cons.1 hc with rfl | hc
    · exact hab
    · exact lt2_trans hab ((List.pairwise_cons.1 ih).1 c hc)

def NoLap (p q : Sq) : Prop := ¬ Over p q
theorem over_comm {p q : Sq} : Over p q ↔ Over q p := by unfold Over; omega
theorem noLap_symm {p q : Sq} (h : NoLap p q) : NoLap q p := fun k => h (over_comm.1 k)
/-- What is asked of the squares of a cut, but for their order. -/
structure Fill (W H : Int) (L : List Sq) : Prop where
  w : 1 ≤ W ∧ W ≤ 500
  h : 1 ≤ H ∧ H ≤ 500
  n : 1 ≤ L.length ∧ L.length ≤ 30
  within : ∀ s ∈ L, Within s W H
  apart : L.Pairwise NoLap
  area : area L = W * H
theorem area_perm {L M : List Sq} (h : L.Perm M) : area L = area M := by
  induction h with
  | nil => rfl
  | cons x _ ih => simp [area, ih]
  | swap x y l => simp [area]; omega
  | trans _ _ a b => exact a.trans b
theorem Fill.perm {W H : Int} {L M : List Sq} (h : Fill W H L) (hp : M.Perm L) : Fill W H M :=
  ⟨h.w, h.h, by rw [hp.length_eq]; exact h.n, fun s hs => h.within s (hp.mem_iff.1 hs), hp.symm.pairwise h.apart (fun a => noLap_symm a), (area_perm hp).trans h.area⟩
theorem pair_same {L : List Sq} (h : L.Pairwise NoLap) {s t : Sq} (hs : s ∈ L) (ht : t ∈ L) (ho : Over s t) : s = t := by
  obtain ⟨i, hi, rfl⟩ := List.mem_iff_getElem.1 hs
  obtain ⟨j, hj, rfl⟩ := List.mem_iff_getElem.1 ht
  rw [List.pairwise_iff_getElem] at h
  rcases Nat.lt_trichotomy i j with k | k | k
  · exact absurd ho (h i j hi hj k)
  · subst k; rfl
  · exact absurd (over_comm.1 ho) (h j i hj hi k)
theorem Fill.dist {W H : Int} {L : List Sq} (h : Fill W H L) : Dist L := fun s hs t ht hx hy => by
  refine pair_same h.apart hs ht ?_
  have a := h.within s hs
  have b := h.within t ht
  unfold Within at a b
  unfold Over
  omega
theorem good_fill {W H : Int} {L : List Sq} (hG : Good W H L) : Fill W H L := by
  obtain ⟨hW, hH, hn, hok, ha⟩ := hG
  refine ⟨hW, hH, hn, fun s hs => ?_, ?_, ha⟩
  · obtain ⟨j, hj⟩ := List.mem_iff_getElem?.1 hs
    exact (hok j s hj).1
  · rw [List.pairwise_iff_getElem]
    intro i j hi hj hij ho
    exact (hok j L[j] (List.getElem?_eq_getElem hj)).2.2.1 i L[i] hij (List.getElem?_eq_getElem hi) (over_comm.1 ho)
theorem good_pair {W H : Int} {L : List Sq} (hG : Good W H L) : L.Pairwise lt2 :=
  pair_of_adj L fun i s t hs ht => (hG.2.2.2.1 (i + 1) t ht).2.2.2 s (by omega) (by simpa using hs)
theorem good_of {W H : Int} {L : List Sq} (hF : Fill W H L) (hp : L.Pairwise lt2) : Good W H L := by
  refine ⟨hF.w, hF.h, hF.n, fun j q hq => ?_, hF.area⟩
  have hjl := (List.getElem?_eq_some_iff.1 hq).1
  have hqe := (List.getElem?_eq_some_iff.1 hq).2
  have hw := hF.within q (List.mem_of_getElem? hq)
  have hW := hF.w
  have hH := hF.h
  refine ⟨hw, by unfold Within at hw; omega, fun i p hi hpi => ?_, fun p hj hpi => ?_⟩
  · have a := hF.apart
    rw [List.pairwise_iff_getElem] at a
    have hil := (List.getElem?_eq_some_iff.1 hpi).1
    have := a i j hil hjl hi
    rw [(List.getElem?_eq_some_iff.1 hpi).2, hqe] at this
    exact fun k => this (over_comm.1 k)
  · rw [List.pairwise_iff_getElem] at hp
    have hil := (List.getElem?_eq_some_iff.1 hpi).1
    have := hp (j - 1) j hil hjl (by omega)
    rw [(List.getElem?_eq_some_iff.1 hpi).2, hqe] at this
    exact this
theorem good_srt {W H : Int} {L : List Sq} (hF : Fill W H L) : Good W H (srt L) := by
  have hF' := hF.perm (srt_perm L)
  refine good_of hF' ?_
  have h := srt_pair L
  rw [List.pairwise_iff_getElem] at h ⊢
  intro i j hi hj hij
  have a := leB_iff.1 (h i j hi hj hij)
  have ap := hF'.apart
  rw [List.pairwise_iff_getElem] at ap
  have b := ap i j hi hj hij
  have w1 := hF'.within _ (List.getElem_mem hi)
  have w2 := hF'.within _ (List.getElem_mem hj)
  unfold NoLap Over at b
  unfold Within at w1 w2
  unfold lt2 Less at *
  omega
theorem good_sorted {W H : Int} {L : List Sq} (hG : Good W H L) : srt L = L := srt_of (good_pair hG)

def turnS (H : Int) (s : Sq) : Sq := ⟨H - s.y - s.d, s.x, s.d⟩
def turnL (H : Int) (L : List Sq) : List Sq := L.map (turnS H)
def mirS (W : Int) (s : Sq) : Sq := ⟨W - s.x - s.d, s.y, s.d⟩
def mirL (W : Int) (L : List Sq) : List Sq := L.map (mirS W)
theorem turnL_len (H : Int) (L : List Sq) : (turnL H L).length = L.length := by simp [turnL]
theorem mirL_len (W : Int) (L : List Sq) : (mirL W L).length = L.length := by simp [mirL]
theorem area_map {f : Sq → Sq} (hf : ∀ s, (f s).d = s.d) (L : List Sq) : area (L.map f) = area L := by
  induction L with
  | nil => rfl
  | cons s r ih => simp [area, ih, hf]
theorem fill_turn {W H : Int} {L : List Sq} (h : Fill W H L) : Fill H W (turnL H L) := by
  refine ⟨h.h, h.w, by rw [turnL_len]; exact h.n, fun s hs => ?_, ?_, ?_⟩
  · obtain ⟨t, ht, rfl⟩ := List.mem_map.1 hs
    have := h.within t ht
    unfold Within at *
    simp only [turnS]
    omega
  · rw [turnL, List.pairwise_map]
    refine h.apart.imp fun k o => k ?_
    unfold Over at *
    simp only [turnS] at o
    omega
  · rw [turnL, area_map (f := turnS H) (fun _ => rfl), h.area, Int.mul_comm]
theorem fill_mir {W H : Int} {L : List Sq} (h : Fill W H L) : Fill W H (mirL W L) := by
  refine ⟨h.w, h.h, by rw [mirL_len]; exact h.n, fun s hs => ?_, ?_, ?_⟩
  · obtain ⟨t, ht, rfl⟩ := List.mem_map.1 hs
    have := h.within t ht
    unfold Within at *
    simp only [mirS]
    omega
  · rw [mirL, List.pairwise_map]
    refine h.apart.imp fun k o => k ?_
    unfold Over at *
    simp only [mirS] at o
    omega
  · rw [mirL, area_map (f := mirS W) (fun _ => rfl), h.area]
theorem good_turn {W H : Int} {L : List Sq} (h : Good W H L) : Good H W (srt (turnL H L)) := good_srt (fill_turn (good_fill h))
theorem good_mir {W H : Int} {L : List Sq} (h : Good W H L) : Good W H (srt (mirL W L)) := good_srt (fill_mir (good_fill h))

def growS (k : Int) (s : Sq) : Sq := ⟨k * s.x, k * s.y, k * s.d⟩
def growL (k : Int) (L : List Sq) : List Sq := L.map (growS k)
theorem growL_len (k : Int) (L : List Sq) : (growL k L).length = L.length := by simp [growL]
theorem mul_lt {k a b : Int} (hk : 1 ≤ k) : k * a < k * b ↔ a < b := Int.mul_lt_mul_left (by omega)
theorem mul_le {k a b : Int} (hk : 1 ≤ k) : k * a ≤ k * b ↔ a ≤ b := Int.mul_le_mul_left (by omega)
theorem area_grow (k : Int) (L : List Sq) : area (growL k L) = k * k * area L := by
  induction L with
  | nil => simp [growL, area]
  | cons s r ih =>
    have : area (growL k (s :: r)) = (k * s.d) * (k * s.d) + area (growL k r) := rfl
    rw [this, ih, area, Int.mul_add]
    congr 1
    rw [Int.mul_assoc, Int.mul_assoc, Int.mul_left_comm s.d k s.d]
theorem good_grow {W H k : Int} {L : List Sq} (hG : Good W H L) (hk : 1 ≤ k) (hW : k * W ≤ 500) (hH : k * H ≤ 500) : Good (k * W) (k * H) (growL k L) := by
  have hF := good_fill hG
  refine good_of ⟨⟨?_, hW⟩, ⟨?_, hH⟩, by rw [growL_len]; exact hF.n, fun s hs => ?_, ?_, ?_⟩ ?_
  · have := (mul_le hk).2 hF.w.1; omega
  · have := (mul_le hk).2 hF.h.1; omega
  · obtain ⟨t, ht, rfl⟩ := List.mem_map.1 hs
    have h := hF.within t ht
    unfold Within at *
    simp only [growS]
    have a1 := (mul_le hk).2 h.1
    have a2 := (mul_le hk).2 h.2.1
    have a3 := (mul_le hk).2 h.2.2.1
    have a4 := (mul_le hk).2 h.2.2.2.1
    have a5 := (mul_le hk).2 h.2.2.2.2
    rw [Int.mul_sub] at a3 a5
    rw [Int.mul_one] at a1
    rw [Int.mul_zero] at a2 a4
    omega
  · rw [growL, List.pairwise_map]
    refine hF.apart.imp fun {p q} h o => h ?_
    unfold Over at *
    simp only [growS, ← Int.mul_add, mul_lt hk] at o
    exact o
  · rw [area_grow, hF.area, Int.mul_assoc, Int.mul_assoc, Int.mul_left_comm k W H]
  · rw [growL, List.pairwise_map]
    refine (good_pair hG).imp fun {p q} h => ?_
    unfold lt2 Less at *
    simp only [growS, mul_lt hk]
    rcases h with h | ⟨h, h'⟩
    · exact .inl h
    · exact .inr ⟨by rw [h], h'⟩
theorem grow_not {W H k : Int} {L : List Sq} (h : ¬ (k * W ≤ 500 ∧ k * H ≤ 500)) : ¬ Good (k * W) (k * H) (growL k L) := fun hG => h ⟨hG.1.2, hG.2.1.2⟩
/-- A square put into a sorted row, behind all that do not come after it. -/
theorem ins_perm (R : List Sq) (s : Sq) (k : Nat) : (R.take k ++ s :: R.drop k).Perm (s :: R) := by
  have h := @List.perm_middle _ s (R.take k) (R.drop k)
  rwa [List.take_append_drop] at h
theorem ins_pair {R : List Sq} {s : Sq} {k : Nat} (hR : R.Pairwise (fun a b => leB a b = true)) (hk : k ≤ R.length) (ha : ∀ (j : Nat) q, k ≤ j → R[j]? = some q → lt2 s q)
    (hb : ∀ q, 0 < k → R[k - 1]? = some q → ¬ lt2 s q) : (R.take k ++ s :: R.drop k).Pairwise (fun a b => leB a b = true) := by
  have hsplit : (R.take k ++ R.drop k).Pairwise (fun a b => leB a b = true) := by rw [List.take_append_drop]; exact hR
  obtain ⟨h1, h2, h3⟩ := List.pairwise_append.1 hsplit
  refine List.pairwise_append.2 ⟨h1, List.pairwise_cons.2 ⟨fun b hb' => ?_, h2⟩, fun a ha' b hb' => ?_⟩
  · obtain ⟨j, hj⟩ := List.mem_iff_getElem?.1 hb'
    rw [List.getElem?_drop] at hj
    exact leB_of_lt (ha _ b (by omega) hj)
  · rcases List.mem_cons.1 hb' with rfl | hb'
    · obtain ⟨j, hj⟩ := List.mem_iff_getElem?.1 ha'
      rw [List.getElem?_take] at hj
      split at hj
      · have hl : R[k - 1]? = some (R[k - 1]'(by omega)) := List.getElem?_eq_getElem (by omega)
        have c := leB_iff.2 (hb _ (by omega) hl)
        obtain ⟨hjl, hje⟩ := List.getElem?_eq_some_iff.1 hj
        rcases Nat.lt_or_ge j (k - 1) with h | h
        · have := List.pairwise_iff_getElem.1 hR j (k - 1) hjl (by omega) h
          rw [hje] at this
          exact leB_trans _ _ _ this c
        · have e : j = k - 1 := by omega
          subst e
          rw [hje] at c
          exact c
      · cases hj
    · exact h3 a ha' b hb'
end Go.Proofs.Ytebnekicbcdnaaa
