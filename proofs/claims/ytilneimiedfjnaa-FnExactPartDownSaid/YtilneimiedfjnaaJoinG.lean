/- Joining: plain mathematics. -/
import Derived.Test.YtilneimiedfjnaaTurnJ
import Derived.Test.YtilneimiedfjnaaMake
import Derived.Test.YtilneimiedfjnaaLongG
set_option linter.all false
namespace Go.Proofs.Ytilneimiedfjnaa
open Go.RowKit

theorem fill_srt {W H : Int} {L : List Sq} : Good W H (srt L) ↔ Fill W H L :=
  ⟨fun h => (good_fill h).perm (srt_perm L).symm, good_srt⟩
theorem srt_same {W H : Int} {L M : List Sq} (hp : L.Perm M) (h : Fill W H L) : srt L = srt M :=
  srt_uniq ((srt_perm L).trans hp) (srt_pair L) ((h.perm hp.symm).dist)
theorem fill_perm {W H : Int} {L M : List Sq} (hp : L.Perm M) : Fill W H L ↔ Fill W H M := ⟨fun h => h.perm hp.symm, fun h => h.perm hp⟩
/-- What is made of squares in whichever order. -/
theorem make_perm {W H : Int} {L M : List Sq} (hp : L.Perm M) (X : Int) :
    cutX W H (srt L) X = cutX W H (srt M) X ∧ ifGood W H (srt L) (srt L) = ifGood W H (srt M) (srt M) ∧ dc (Good W H (srt L)) = dc (Good W H (srt M)) := by
  by_cases h : Fill W H L
  · rw [srt_same hp h]; exact ⟨rfl, rfl, rfl⟩
  · have h' : ¬ Fill W H M := fun k => h ((fill_perm hp).2 k)
    have g : ¬ Good W H (srt L) := fun k => h (fill_srt.1 k)
    have g' : ¬ Good W H (srt M) := fun k => h' (fill_srt.1 k)
    rw [cutX_no g, cutX_no g', ifGood_no g, ifGood_no g', dc_false g, dc_false g']
    exact ⟨rfl, rfl, rfl⟩
namespace J
/-- Squares grown and moved. -/
def jS (k x y : Int) (s : Sq) : Sq := ⟨s.x * k + x, s.y * k + y, s.d * k⟩
def jL (k x y : Int) (L : List Sq) : List Sq := L.map (jS k x y)
def mvS (x y : Int) (s : Sq) : Sq := ⟨s.x + x, s.y + y, s.d⟩
def mvL (x y : Int) (L : List Sq) : List Sq := L.map (mvS x y)
def swS (s : Sq) : Sq := ⟨s.y, s.x, s.d⟩
def swL (L : List Sq) : List Sq := L.map swS
theorem jL_len (k x y : Int) (L : List Sq) : (jL k x y L).length = L.length := by simp [jL]
theorem mvL_len (x y : Int) (L : List Sq) : (mvL x y L).length = L.length := by simp [mvL]
theorem swL_len (L : List Sq) : (swL L).length = L.length := by simp [swL]
theorem mv_grow (k x y : Int) (L : List Sq) : mvL x y (growL k L) = jL k x y L := by
  simp only [mvL, growL, jL, List.map_map]
  refine List.map_congr_left fun s _ => ?_
  simp [mvS, growS, jS, Int.mul_comm]
theorem grow_j (k : Int) (L : List Sq) : growL k L = jL k 0 0 L := by
  simp only [growL, jL]
  refine List.map_congr_left fun s _ => ?_
  simp [growS, jS, Int.mul_comm]
theorem j_one (x y : Int) (L : List Sq) : jL 1 x y L = mvL x y L := by
  simp only [jL, mvL]
  refine List.map_congr_left fun s _ => ?_
  simp [mvS, jS]
theorem mv_zero (L : List Sq) : mvL 0 0 L = L := by
  simp only [mvL]
  conv => rhs; rw [← List.map_id L]
  refine List.map_congr_left fun s _ => ?_
  simp [mvS]
theorem sw_sw (L : List Sq) : swL (swL L) = L := by
  simp only [swL, List.map_map]
  conv => rhs; rw [← List.map_id L]
  exact List.map_congr_left fun s _ => rfl
theorem sw_j (k x y : Int) (L : List Sq) : swL (jL k x y L) = jL k y x (swL L) := by
  simp only [swL, jL, List.map_map]
  exact List.map_congr_left fun s _ => rfl
theorem sw_app (L M : List Sq) : swL (L ++ M) = swL L ++ swL M := by simp [swL]
theorem sw_perm {L M : List Sq} (h : L.Perm M) : (swL L).Perm (swL M) := h.map _
theorem j_perm {k x y : Int} {L M : List Sq} (h : L.Perm M) : (jL k x y L).Perm (jL k x y M) := h.map _
theorem mir_turn (H : Int) (L : List Sq) : mirL H (turnL H L) = swL L := by
  simp only [mirL, turnL, swL, List.map_map]
  refine List.map_congr_left fun s _ => ?_
  simp only [Function.comp, mirS, turnS, swS, Sq.mk.injEq, and_true]
  omega
theorem fill_sw {W H : Int} {L : List Sq} (h : Fill W H L) : Fill H W (swL L) := by
  have := fill_mir (fill_turn h)
  rwa [mir_turn] at this
theorem fill_sw' {W H : Int} {L : List Sq} : Fill H W (swL L) ↔ Fill W H L := ⟨fun h => by have := fill_sw h; rwa [sw_sw] at this, fill_sw⟩
/-- Turned and mirrored: X and Y are exchanged. -/
theorem exch {W H : Int} {L : List Sq} (h : Fill W H L) : srt (mirL H (srt (turnL H L))) = srt (swL L) := by
  refine srt_uniq ((srt_perm _).trans ?_) (srt_pair _) (fill_sw h).dist
  rw [← mir_turn H L]
  exact (srt_perm _).map _
theorem good_sw {W H : Int} {L : List Sq} (h : Good W H L) : Good H W (srt (swL L)) := good_srt (fill_sw (good_fill h))

/-- What is beside, and what is under. -/
def beL (W m n : Int) (A B : List Sq) : List Sq := jL m 0 0 A ++ jL n (W * m) 0 B
def unL (H m n : Int) (A B : List Sq) : List Sq := jL m 0 0 A ++ jL n 0 (H * m) B
theorem under_perm (H m n : Int) (A B : List Sq) : (swL (beL H m n (srt (swL A)) (srt (swL B)))).Perm (unL H m n A B) := by
  unfold beL unL
  rw [sw_app, sw_j, sw_j]
  refine List.Perm.append ?_ ?_
  · refine j_perm ?_
    have := sw_perm (srt_perm (swL A))
    rwa [sw_sw] at this
  · refine j_perm ?_
    have := sw_perm (srt_perm (swL B))
    rwa [sw_sw] at this
theorem under_fill (X Y H m n : Int) (A B : List Sq) : Fill X Y (beL H m n (srt (swL A)) (srt (swL B))) ↔ Fill Y X (unL H m n A B) := by
  rw [← fill_perm (under_perm H m n A B), fill_sw']
theorem under_srt {X Y H m n : Int} {A B : List Sq} (h : Fill X Y (beL H m n (srt (swL A)) (srt (swL B)))) : srt (swL (srt (beL H m n (srt (swL A)) (srt (swL B))))) = srt (unL H m n A B) := by
  have h1 : Fill Y X (swL (srt (beL H m n (srt (swL A)) (srt (swL B))))) := fill_sw (h.perm (srt_perm _))
  exact srt_same ((sw_perm (srt_perm _)).trans (under_perm H m n A B)) h1

theorem area_mv (x y : Int) (L : List Sq) : area (mvL x y L) = area L := area_map (f := mvS x y) (fun _ => rfl) L
theorem fill_beside {W V H : Int} {A B : List Sq} (ha : Fill W H A) (hb : Fill V H B) (hw : W + V ≤ 500) (hn : A.length + B.length ≤ 30) : Fill (W + V) H (A ++ mvL W 0 B) := by
  have w0 := ha.w
  have v0 := hb.w
  have n0 := ha.n
  refine ⟨⟨by omega, hw⟩, ha.h, ⟨by simp; omega, by simp [mvL_len]; omega⟩, fun s hs => ?_, ?_, ?_⟩
  · rcases List.mem_append.1 hs with h | h
    · have := ha.within s h; unfold Within at *; omega
    · obtain ⟨t, ht, rfl⟩ := List.mem_map.1 h
      have := hb.within t ht
      unfold Within at *
      simp only [mvS]
      omega
  · refine List.pairwise_append.2 ⟨ha.apart, ?_, fun s hs t ht => ?_⟩
    · rw [mvL, List.pairwise_map]
      refine hb.apart.imp fun k o => k ?_
      unfold Over at *
      simp only [mvS] at o
      omega
    · obtain ⟨q, hq, rfl⟩ := List.mem_map.1 ht
      have a := ha.within s hs
      have b := hb.within q hq
      unfold Within at a b
      intro o
      unfold Over at o
      simp only [mvS] at o
      omega
  · rw [area_app, area_mv, ha.area, hb.area, Int.add_mul]
theorem fill_one {d : Int} (h0 : 1 ≤ d) (h1 : d ≤ 500) : Fill d d [⟨0, 0, d⟩] := by
  refine ⟨⟨h0, h1⟩, ⟨h0, h1⟩, by simp, fun s hs => ?_, by simp, by simp [area]⟩
  simp at hs; subst hs; unfold Within; simp; omega
theorem good_one {d : Int} (h0 : 1 ≤ d) (h1 : d ≤ 500) : Good d d [⟨0, 0, d⟩] := good_of (fill_one h0 h1) (by simp)

/-- The squares that are put at an edge of a cut, in no order. -/
def putL (W H : Int) (L : List Sq) (e : Int) : List Sq :=
  if e = 0 then jL 1 0 W L ++ [⟨0, 0, W⟩] else if e = 1 then jL 1 0 0 L ++ [⟨W, 0, H⟩] else if e = 2 then jL 1 0 0 L ++ [⟨0, H, W⟩] else jL 1 H 0 L ++ [⟨0, 0, H⟩]
def putW (W H e : Int) : Int := if e = 0 ∨ e = 2 then W else W + H
def putH (W H e : Int) : Int := if e = 0 ∨ e = 2 then H + W else H
theorem jOne (x y d : Int) : jL 1 x y [⟨0, 0, d⟩] = [⟨x, y, d⟩] := by simp [jL, jS]
theorem put0 (W H : Int) (L : List Sq) : (unL W 1 1 [⟨0, 0, W⟩] L).Perm (putL W H L 0) := by
  simp only [unL, putL, if_pos, jOne, Int.mul_one]
  exact List.perm_append_comm
theorem put1 (W H : Int) (L : List Sq) : beL W 1 1 L [⟨0, 0, H⟩] = putL W H L 1 := by
  simp [beL, putL, jOne]
theorem put2 (W H : Int) (L : List Sq) : unL H 1 1 L [⟨0, 0, W⟩] = putL W H L 2 := by
  simp [unL, putL, jOne]
theorem put3 (W H : Int) (L : List Sq) : (beL H 1 1 [⟨0, 0, H⟩] L).Perm (putL W H L 3) := by
  simp only [beL, putL, jOne, Int.mul_one]
  exact List.perm_append_comm
theorem fill_put {W H : Int} {L : List Sq} (h : Fill W H L) (hs : W + H ≤ 500) (hn : L.length + 1 ≤ 30) (e : Int) : Fill (putW W H e) (putH W H e) (putL W H L e) := by
  have w0 := h.w
  have h0 := h.h
  have ow := fill_one w0.1 w0.2
  have oh := fill_one h0.1 h0.2
  have sw1 : ∀ d : Int, swL [⟨0, 0, d⟩] = [⟨0, 0, d⟩] := fun _ => rfl
  by_cases e0 : e = 0
  · subst e0
    simp only [putW, putH, true_or, if_true]
    have k := fill_beside ow (fill_sw h) (by omega) (by simp [swL_len]; omega)
    have k' := fill_sw k
    rw [Int.add_comm H W]
    refine k'.perm ?_
    rw [sw_app, sw1, ← j_one, sw_j, sw_sw]
    simp only [putL, if_true]
    exact List.perm_append_comm
  · by_cases e2 : e = 2
    · subst e2
      simp only [putW, putH, or_true, if_true]
      have k := fill_beside (fill_sw h) ow (by omega) (by simp [swL_len]; omega)
      have k' := fill_sw k
      rw [sw_app, sw_sw, ← j_one, sw_j, sw1, jOne] at k'
      simpa [putL, j_one, mv_zero] using k'
    · have hw : putW W H e = W + H := by simp [putW, e0, e2]
      have hh : putH W H e = H := by simp [putH, e0, e2]
      rw [hw, hh]
      by_cases e1 : e = 1
      · subst e1
        have k := fill_beside h oh (by omega) (by simp; omega)
        rw [← j_one, jOne] at k
        simpa [putL, j_one, mv_zero] using k
      · have k := fill_beside oh h (by omega) (by simp; omega)
        rw [Int.add_comm W H]
        refine k.perm ?_
        simp only [putL, if_neg e0, if_neg e1, if_neg e2, j_one]
        exact List.perm_append_comm
theorem putL_len (W H : Int) (L : List Sq) (e : Int) : (putL W H L e).length = L.length + 1 := by
  unfold putL; (repeat' split) <;> simp [jL_len]
/-- Spirals. -/
noncomputable def spi : Nat → Int × Int × List Sq
  | 0 => (1, 1, [⟨0, 0, 1⟩])
  | k + 1 => (putW (spi k).1 (spi k).2.1 ((k + 1 : Nat) % 4 : Nat), putH (spi k).1 (spi k).2.1 ((k + 1 : Nat) % 4 : Nat), srt (putL (spi k).1 (spi k).2.1 (spi k).2.2 ((k + 1 : Nat) % 4 : Nat)))
def dims : Nat → Int × Int
  | 0 => (1, 1)
  | k + 1 => (putW (dims k).1 (dims k).2 ((k + 1 : Nat) % 4 : Nat), putH (dims k).1 (dims k).2 ((k + 1 : Nat) % 4 : Nat))
theorem spi_dims (k : Nat) : (spi k).1 = (dims k).1 ∧ (spi k).2.1 = (dims k).2 := by
  induction k with
  | zero => exact ⟨rfl, rfl⟩
  | succ k ih => simp only [spi, dims]; rw [ih.1, ih.2]; exact ⟨rfl, rfl⟩
theorem dims_small : ∀ k : Nat, k < 12 → (dims k).1 + (dims k).2 ≤ 500 := by decide
theorem spi_good (k : Nat) (hk : k < 12) : Good (spi k).1 (spi k).2.1 (spi k).2.2 ∧ (spi k).2.2.length = k + 1 := by
  induction k with
  | zero => exact ⟨good_one (by decide) (by decide), rfl⟩
  | succ k ih =>
    obtain ⟨hG, hl⟩ := ih (by omega)
    have hd := dims_small k (by omega)
    rw [← (spi_dims k).1, ← (spi_dims k).2] at hd
    refine ⟨good_srt (fill_put (good_fill hG) hd (by omega) _), ?_⟩
    simp only [spi]
    rw [srt_len, putL_len, hl]
end J
namespace J
/-- No square is across this place. -/
def FreeX (L : List Sq) (x : Int) : Prop := ∀ s ∈ L, x ≤ s.x ∨ s.x + s.d ≤ x
theorem freeX_perm {L M : List Sq} (h : L.Perm M) (x : Int) : FreeX L x ↔ FreeX M x := ⟨fun k s hs => k s (h.mem_iff.2 hs), fun k s hs => k s (h.mem_iff.1 hs)⟩
/-- The places below k of lines down. -/
noncomputable def lnD (L : List Sq) : Nat → List Int
  | 0 => []
  | k + 1 => if 1 ≤ k ∧ dc (FreeX L k) = true then lnD L k ++ [(k : Int)] else lnD L k
theorem lnD_yes {L : List Sq} {k : Nat} (h1 : 1 ≤ k) (h : FreeX L k) : lnD L (k + 1) = lnD L k ++ [(k : Int)] := if_pos ⟨h1, dc_true h⟩
theorem lnD_no {L : List Sq} {k : Nat} (h : ¬ FreeX L k) : lnD L (k + 1) = lnD L k := if_neg fun k => h (dc_iff.1 k.2)
theorem lnD_one (L : List Sq) : lnD L 1 = [] := if_neg fun k => absurd k.1 (by decide)
theorem lnD_len (L : List Sq) (k : Nat) : (lnD L k).length ≤ k := by
  induction k with
  | zero => simp [lnD]
  | succ k ih =>
    simp only [lnD]
    split
    · simp; omega
    · omega
theorem lnD_mem {L : List Sq} {k : Nat} {x : Int} (h : x ∈ lnD L k) : 1 ≤ x ∧ x < k ∧ FreeX L x := by
  induction k with
  | zero => simp [lnD] at h
  | succ k ih =>
    simp only [lnD] at h
    split at h
    · rename_i hh
      rcases List.mem_append.1 h with h | h
      · have := ih h; refine ⟨this.1, by omega, this.2.2⟩
      · simp at h; subst h; exact ⟨by omega, by omega, dc_iff.1 hh.2⟩
    · have := ih h; refine ⟨this.1, by omega, this.2.2⟩
theorem lnD_congr {L M : List Sq} (h : ∀ x, FreeX L x ↔ FreeX M x) (k : Nat) : lnD L k = lnD M k := by
  induction k with
  | zero => rfl
  | succ k ih =>
    have e : dc (FreeX L k) = dc (FreeX M k) := by rw [propext (h k)]
    simp only [lnD, ih, e]
theorem lnD_perm {L M : List Sq} (h : L.Perm M) (k : Nat) : lnD L k = lnD M k := lnD_congr (freeX_perm h) k

/-- The squares that are within a part, told from its corner. -/
noncomputable def inn (x y w h : Int) (L : List Sq) : List Sq := (mvL (-x) (-y) L).filter fun s => dc (Within s w h)
theorem inn_all {W H : Int} {L : List Sq} (hF : Fill W H L) : inn 0 0 W H L = L := by
  unfold inn
  rw [Int.neg_zero, mv_zero]
  exact List.filter_eq_self.2 fun s hs => dc_true (hF.within s hs)
noncomputable def paX (a : Int) (L : List Sq) : List Sq := L.filter fun s => decide (s.x < a)
noncomputable def pbX (a : Int) (L : List Sq) : List Sq := (L.filter fun s => decide (a ≤ s.x)).map (mvS (-a) 0)
noncomputable def paY (a : Int) (L : List Sq) : List Sq := L.filter fun s => decide (s.y < a)
noncomputable def pbY (a : Int) (L : List Sq) : List Sq := (L.filter fun s => decide (a ≤ s.y)).map (mvS 0 (-a))
theorem filter_congr' {α : Type} {p q : α → Bool} {L : List α} (h : ∀ s ∈ L, p s = q s) : L.filter p = L.filter q := List.filter_congr h
theorem inn_a {W H a : Int} {L : List Sq} (hF : Fill W H L) (hf : FreeX L a) : inn 0 0 a H L = paX a L := by
  unfold inn paX
  rw [Int.neg_zero, mv_zero]
  refine filter_congr' fun s hs => ?_
  rw [Bool.eq_iff_iff, dc_iff, decide_eq_true_iff]
  have h1 := hF.within s hs
  have h2 := hf s hs
  unfold Within at *
  omega
theorem inn_b {W H a : Int} {L : List Sq} (hF : Fill W H L) (hf : FreeX L a) : inn a 0 (W - a) H L = pbX a L := by
  unfold inn pbX
  rw [Int.neg_zero, mvL, List.filter_map]
  congr 1
  refine filter_congr' fun s hs => ?_
  simp only [Function.comp]
  rw [Bool.eq_iff_iff, dc_iff, decide_eq_true_iff]
  have h1 := hF.within s hs
  have h2 := hf s hs
  unfold Within mvS at *
  simp only
  omega
theorem inn_c {W H a : Int} {L : List Sq} (hF : Fill W H L) (hf : FreeX (swL L) a) : inn 0 0 W a L = paY a L := by
  unfold inn paY
  rw [Int.neg_zero, mv_zero]
  refine filter_congr' fun s hs => ?_
  rw [Bool.eq_iff_iff, dc_iff, decide_eq_true_iff]
  have h1 := hF.within s hs
  have h2 := hf (swS s) (List.mem_map_of_mem hs)
  unfold Within swS at *
  simp only at h2
  omega
theorem inn_d {W H a : Int} {L : List Sq} (hF : Fill W H L) (hf : FreeX (swL L) a) : inn 0 a W (H - a) L = pbY a L := by
  unfold inn pbY
  rw [Int.neg_zero, mvL, List.filter_map]
  congr 1
  refine filter_congr' fun s hs => ?_
  simp only [Function.comp]
  rw [Bool.eq_iff_iff, dc_iff, decide_eq_true_iff]
  have h1 := hF.within s hs
  have h2 := hf (swS s) (List.mem_map_of_mem hs)
  unfold Within mvS swS at *
  simp only at h2 ⊢
  omega

/-- The greatest of numbers of squares, at least 0. -/
def mxF (f : Sq → Int) (P : List Sq) : Int := P.foldl (fun a s => max a (f s)) 0
theorem foldl_max_ge (f : Sq → Int) (P : List Sq) (a : Int) : a ≤ P.foldl (fun a s => max a (f s)) a ∧ (∀ s ∈ P, f s ≤ P.foldl (fun a s => max a (f s)) a) ∧ (P.foldl (fun a s => max a (f s)) a = a ∨ ∃ s ∈ P, P.foldl (fun a s => max a (f s)) a = f s) := by
  induction P generalizing a with
  | nil => simp
  | cons q r ih =>
    obtain ⟨h1, h2, h3⟩ := ih (max a (f q))
    simp only [List.foldl_cons]
    refine ⟨by omega, fun s hs => ?_, ?_⟩
    · rcases List.mem_cons.1 hs with rfl | hs
      · omega
      · exact h2 s hs
    · rcases h3 with h3 | ⟨s, hs, h3⟩
      · rw [h3]
        rcases Int.le_total a (f q) with h | h
        · exact .inr ⟨q, List.mem_cons_self, by omega⟩
        · exact .inl (by omega)
      · exact .inr ⟨s, List.mem_cons_of_mem _ hs, h3⟩
theorem mxF_take_succ (f : Sq → Int) (P : List Sq) (k : Nat) (s : Sq) (h : P[k]? = some s) : mxF f (P.take (k + 1)) = max (mxF f (P.take k)) (f s) := by
  unfold mxF
  rw [List.take_add_one, h]; simp
theorem mxF_map (f : Sq → Int) (g : Sq → Sq) (P : List Sq) : mxF f (P.map g) = mxF (fun s => f (g s)) P := by
  unfold mxF; rw [List.foldl_map]
theorem mxF_bound (f : Sq → Int) (P : List Sq) (m : Int) (hm : 0 ≤ m) (h : ∀ s ∈ P, f s ≤ m) : 0 ≤ mxF f P ∧ mxF f P ≤ m := by
  obtain ⟨h1, h2, h3⟩ := foldl_max_ge f P 0
  refine ⟨h1, ?_⟩
  rcases h3 with h3 | ⟨s, hs, h3⟩
  · unfold mxF; omega
  · unfold mxF; rw [h3]; exact h s hs
/-- Of numbers that are all more than c at least 0, the greatest less c. -/
theorem mxF_less (f : Sq → Int) (P : List Sq) (c : Int) (hc : 0 ≤ c) (hP : P ≠ []) (h : ∀ s ∈ P, c < f s) : mxF (fun s => f s - c) P = mxF f P - c := by
  obtain ⟨h1, h2, h3⟩ := foldl_max_ge f P 0
  obtain ⟨k1, k2, k3⟩ := foldl_max_ge (fun s => f s - c) P 0
  obtain ⟨p, hp⟩ := List.exists_mem_of_ne_nil P hP
  have e1 := h p hp
  have e2 := h2 p hp
  have e3 := k2 p hp
  show List.foldl (fun a s => max a (f s - c)) 0 P = List.foldl (fun a s => max a (f s)) 0 P - c
  rcases h3 with h3 | ⟨s, hs, h3⟩
  · omega
  · rcases k3 with k3 | ⟨t, ht, k3⟩
    · omega
    · have := h2 t ht
      have := k2 s hs
      omega
/-- The least of numbers of squares, of that of the first one on. -/
def mnF (f : Sq → Int) (a : Int) (P : List Sq) : Int := P.foldl (fun a s => min a (f s)) a
theorem mnF_take_succ (f : Sq → Int) (a : Int) (P : List Sq) (k : Nat) (s : Sq) (h : P[k]? = some s) : mnF f a (P.take (k + 1)) = min (mnF f a (P.take k)) (f s) := by
  unfold mnF
  rw [List.take_add_one, h]; simp
theorem mnF_le (f : Sq → Int) (P : List Sq) (a : Int) : mnF f a P ≤ a ∧ (∀ s ∈ P, mnF f a P ≤ f s) ∧ (mnF f a P = a ∨ ∃ s ∈ P, mnF f a P = f s) := by
  unfold mnF
  induction P generalizing a with
  | nil => simp
  | cons q r ih =>
    obtain ⟨h1, h2, h3⟩ := ih (min a (f q))
    simp only [List.foldl_cons]
    refine ⟨by omega, fun s hs => ?_, ?_⟩
    · rcases List.mem_cons.1 hs with rfl | hs
      · omega
      · exact h2 s hs
    · rcases h3 with h3 | ⟨s, hs, h3⟩
      · rw [h3]
        rcases Int.le_total a (f q) with h | h
        · exact .inl (by omega)
        · exact .inr ⟨q, List.mem_cons_self, by omega⟩
      · exact .inr ⟨s, List.mem_cons_of_mem _ hs, h3⟩
theorem fill_corner {W H : Int} {L : List Sq} (h : Fill W H L) : ∃ s ∈ L, s.x = 0 ∧ s.y = 0 := by
  obtain ⟨a, b, hW, hH, hC⟩ := cut_of_good (good_srt h)
  have hw := h.w
  have hh := h.h
  obtain ⟨s, hs, hat⟩ := M.covered hC.within hC.apart hC.area 0 0 (by omega) (by omega)
  have hs' := (srt_perm L).mem_iff.1 hs
  have hi := h.within s hs'
  unfold M.At at hat
  unfold Within at hi
  exact ⟨s, hs', by omega, by omega⟩
/-- Whether places are told from the first square or from the least of all X and Y: the same cut, or none. -/
theorem take_same {f : Sq} {r : List Sq} (hp : (f :: r).Pairwise lt2) (hb : ∀ s ∈ f :: r, 0 ≤ s.x ∧ 0 ≤ s.y ∧ 1 ≤ s.d) :
    let P := f :: r
    let x := mnF (·.x) f.x P
    let y := mnF (·.y) f.y P
    (mxF (fun s => s.x + s.d) P - x = mxF (fun s => s.x + s.d) (mvL (-f.x) (-f.y) P) ∧ mxF (fun s => s.y + s.d) P - y = mxF (fun s => s.y + s.d) (mvL (-f.x) (-f.y) P) ∧ mvL (-x) (-y) P = mvL (-f.x) (-f.y) P) ∨
    ((∀ W H, ¬ Fill W H (mvL (-x) (-y) P)) ∧ ∀ W H, ¬ Fill W H (mvL (-f.x) (-f.y) P)) := by
  intro P x y
  have hy : y = f.y := by
    obtain ⟨h1, h2, h3⟩ := mnF_le (·.y) P f.y
    rcases h3 with h3 | ⟨s, hs, h3⟩
    · exact h3
    · have e : s.y ≤ mnF (·.y) f.y P := Int.le_of_eq h3.symm
      show mnF (·.y) f.y P = f.y
      rcases List.mem_cons.1 hs with rfl | hs'
      · exact h3
      · have := (List.pairwise_cons.1 hp).1 s hs'
        unfold lt2 Less at this
        have h1' : mnF (·.y) f.y P ≤ f.y := h1
        omega
  obtain ⟨g1, g2, g3⟩ := mnF_le (·.x) P f.x
  by_cases hx : x = f.x
  · left
    have hfx := (hb f List.mem_cons_self).1
    have hfy := (hb f List.mem_cons_self).2.1
    have hmv : ∀ (c e : Int) (s : Sq), s ∈ P → (mvS c e s).d = s.d := fun _ _ _ _ => rfl
    refine ⟨?_, ?_, by rw [hx, hy]⟩
    · rw [hx, mvL, mxF_map, ← mxF_less (fun s => s.x + s.d) P f.x hfx (by simp [P]) fun s hs => by
        have := g2 s hs; have := (hb s hs).2.2
        have hx' : mnF (·.x) f.x P = f.x := hx
        show f.x < s.x + s.d
        omega]
      congr 1; funext s; simp only [mvS]; omega
    · rw [hy, mvL, mxF_map, ← mxF_less (fun s => s.y + s.d) P f.y hfy (by simp [P]) fun s hs => by
        have := (mnF_le (·.y) P f.y).2.1 s hs; have := (hb s hs).2.2
        have hy' : mnF (·.y) f.y P = f.y := hy
        show f.y < s.y + s.d
        omega]
      congr 1; funext s; simp only [mvS]; omega
  · right
    have hlt : x < f.x := by have : x ≤ f.x := g1; omega
    obtain ⟨s, hs, hsx⟩ : ∃ s ∈ P, x = s.x := by
      rcases g3 with g3 | g3
      · exact absurd g3 hx
      · exact g3
    refine ⟨fun W H hF => ?_, fun W H hF => ?_⟩
    · obtain ⟨q, hq, q0, q1⟩ := fill_corner hF
      obtain ⟨t, ht, rfl⟩ := List.mem_map.1 hq
      simp only [mvS] at q0 q1
      rcases List.mem_cons.1 ht with rfl | ht'
      · omega
      · have := (List.pairwise_cons.1 hp).1 t ht'
        unfold lt2 Less at this
        omega
    · have := hF.within _ (List.mem_map_of_mem hs)
      unfold Within mvS at this
      simp only at this
      omega
/-- A square taken out, and others put at its place or at the end. -/
theorem replace_perm {α : Type} (L R : List α) (k : Nat) : (L.take k ++ (L.drop (k + 1) ++ R)).Perm (L.take k ++ (R ++ L.drop (k + 1))) :=
  List.Perm.append (List.Perm.refl _) List.perm_append_comm
end J
end Go.Proofs.Ytilneimiedfjnaa
