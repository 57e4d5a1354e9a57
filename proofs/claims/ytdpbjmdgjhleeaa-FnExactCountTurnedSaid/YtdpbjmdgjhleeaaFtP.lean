/- FtG, FtD: texts in one. -/
import Derived.Test.YtdpbjmdgjhleeaaFoM
import Derived.Test.YtdpbjmdgjhleeaaCta
import Derived.Test.YtdpbjmdgjhleeaaLongG
import Derived.Test.YtdpbjmdgjhleeaaFirstK
import Derived.Test.YtdpbjmdgjhleeaaFirstC
set_option linter.all false
namespace Go.Proofs.Ytdpbjmdgjhleeaa
open Go.RowKit

/-- The columns under squares: a square's columns are at least as high as its end. -/
def StU (f : List Int) (P : List Sq) : Prop := ∀ p ∈ P, ∀ (i : Nat) v, f[i]? = some v → p.x ≤ i → (i : Int) < p.x + p.d → p.y + p.d ≤ v
theorem StU.next {f : List Int} {P : List Sq} {x : Nat} {y s : Int} (h : StU f P) (hs : 1 ≤ s) (hl : Lvl f x s.toNat y) : StU (liftF f x s.toNat s) (P ++ [⟨x, y, s⟩]) := by
  intro p hp i v hv h1 h2
  rw [liftF_get] at hv
  cases hi : f[i]? with
  | none => rw [hi] at hv; cases hv
  | some u =>
    rw [hi] at hv
    simp only [Option.map_some, Option.some.injEq] at hv
    rcases List.mem_append.1 hp with hp | hp
    · have := h p hp i u hi h1 h2
      split at hv <;> omega
    · simp only [List.mem_singleton] at hp
      subst hp
      dsimp only at h1 h2 ⊢
      rw [if_pos (by omega)] at hv
      have := hl i (by omega) (by omega)
      rw [hi] at this
      cases this
      omega
theorem fills_all {W H : Nat} {L : List Sq} (hG : Good W H L) (h6 : W ≤ 6) : ∀ (S P : List Sq) (f : List Int) (k : Nat), P ++ S = L → S.length ≤ k → Fl W H f → StF f P → StU f P → S ∈ fills 6 H k f := by
  have hF := good_fill hG
  have hp := hF.apart
  have hpl := good_pair hG
  have hin : ∀ s ∈ L, M.Inn s W H := fun s hs => by have := hF.within s hs; unfold Within at this; unfold M.Inn; omega
  have hW1 : 1 ≤ W := by have := hG.1.1; omega
  intro S
  induction S with
  | nil =>
    intro P f k e _ hfl hst _
    rw [List.append_nil] at e
    subst e
    have hall := hst.flat (by rw [hfl.len]) hG
    obtain ⟨x, y, r, hm, hr⟩ := hfl.rm hW1
    have := hall x y hm.1
    have h2 := hr.h
    obtain rfl : r = 0 := by omega
    rw [fills_leaf hm hr]
    exact List.mem_singleton_self _
  | cons q S ih =>
    intro P f k e hk hfl hst hsu
    obtain ⟨k, rfl⟩ : ∃ j, k = j + 1 := ⟨k - 1, by simp at hk; omega⟩
    obtain ⟨x, y, r, hm, hr⟩ := hfl.rm hW1
    have hq : q ∈ L := by rw [← e]; simp
    have hqw := hF.within q hq
    unfold Within at hqw
    have hx := (List.getElem?_eq_some_iff.1 hm.1).1
    have hxW : x < W := by have := hfl.len; omega
    have hy0 := hfl.lo x y hm.1
    have hyH := hfl.hi x y hm.1
    have harea : ∀ M : List Sq, (∀ s ∈ M, 1 ≤ s.d) → 0 ≤ area M := by
      intro M
      induction M with
      | nil => intro _; simp [area]
      | cons a M im => intro hM; have := im fun s hs => hM s (List.mem_cons_of_mem _ hs); have h1 := hM a List.mem_cons_self; have := Int.mul_nonneg (show 0 ≤ a.d by omega) (show 0 ≤ a.d by omega); simp only [area]; omega
    have hyl : y < H := by
      apply Classical.byContradiction
      intro hn
      have hye : y = H := by omega
      have hs : f.sum = W * H := by
        have h1 := hfl.sum.2.1
        have h2 : ∀ g : List Int, (∀ u ∈ g, (H : Int) ≤ u) → (g.length : Int) * H ≤ g.sum := by
          intro g
          induction g with
          | nil => intro _; simp
          | cons a g ig => intro hg; have := ig fun u hu => hg u (List.mem_cons_of_mem _ hu); have := hg a List.mem_cons_self; simp only [List.length_cons, List.sum_cons]; rw [Int.natCast_succ, Int.add_mul, Int.one_mul]; omega
        have h3 := h2 f fun u hu => by obtain ⟨i, hi, e⟩ := List.mem_iff_getElem.1 hu; have := hm.2.1 i u (by rw [List.getElem?_eq_getElem hi, e]); omega
        rw [hfl.len] at h3
        omega
      have h4 := hst.sum
      have h5 := hG.2.2.2.2
      rw [← e, area_app] at h5
      have h6 := harea S fun s hs => by have := hF.within s (by rw [← e]; simp [hs]); unfold Within at this; omega
      simp only [area] at h5
      have := Int.mul_pos (show 0 < q.d by omega) (show 0 < q.d by omega)
      omega
    obtain ⟨y', rfl⟩ := Int.eq_ofNat_of_zero_le hy0
    obtain ⟨s, hs, hat⟩ := M.covered hin hp hG.2.2.2.2 x y' hxW (by omega)
    unfold M.At at hat
    have hsP : s ∉ P := fun hsP => by
      have := hsu s hsP x y' hm.1 (by omega) (by omega)
      omega
    have hord : s = q ∨ lt2 q s := by
      rw [← e] at hs hpl
      have h1 := (List.pairwise_append.1 hpl).2.1
      rcases List.mem_append.1 hs with h | h
      · exact absurd h hsP
      · rcases List.mem_cons.1 h with h | h
        · exact .inl h
        · exact .inr ((List.pairwise_cons.1 h1).1 s h)
    -- the next square does not lie in the columns that are filled
    obtain ⟨a, ha⟩ := Int.eq_ofNat_of_zero_le hqw.2.1
    have haW : a < W := by omega
    obtain ⟨v, hv⟩ : ∃ v, f[a]? = some v := ⟨_, List.getElem?_eq_getElem (by have := hfl.len; omega)⟩
    have hvq : v ≤ q.y := by
      apply Classical.byContradiction
      intro hn
      obtain ⟨p, hpP, p1, p2, p3⟩ := hst.top a v hv (by omega)
      have h1 : lt2 p q ∧ NoLap p q := by
        rw [← e] at hpl hp
        exact ⟨(List.pairwise_append.1 hpl).2.2 p hpP q List.mem_cons_self, (List.pairwise_append.1 hp).2.2 p hpP q List.mem_cons_self⟩
      have h2 := h1.1
      refine h1.2 ?_
      unfold lt2 Less at h2
      have h3 := hF.within p (by rw [← e]; simp [hpP])
      unfold Within at h3
      unfold Over
      omega
    have hvm := hm.2.1 a v hv
    have hqy : q.y = y' ∧ q.x = x := by
      have hle : q.y ≤ s.y := by rcases hord with h | h; · rw [h]; omega
                                 · unfold lt2 Less at h; omega
      have e1 : q.y = y' := by omega
      have e2 : v = (y' : Int) := by omega
      have h2 : ¬ a < x := fun h => by have := hm.2.2 a v h hv; omega
      rcases hord with h | h
      · rw [h] at hat; omega
      · unfold lt2 Less at h; omega
    obtain ⟨d, hd⟩ := Int.eq_ofNat_of_zero_le (show 0 ≤ q.d by omega)
    have hqe : q = ⟨(x : Int), (y' : Int), (d : Int)⟩ := by
      cases q
      simp only at hqy hd ⊢
      rw [hqy.1, hqy.2, hd]
    have hd1 : 1 ≤ d := by omega
    have hxd : x + d ≤ f.length := by have := hfl.len; omega
    have hlvl : Lvl f x d y' := by
      apply Classical.byContradiction
      intro hn
      have h1 := hst.lap (s := (d : Int)) hm (by omega) (by simpa using hxd) (by simpa using hn)
      rw [← hqe] at h1
      have h2 := h1.app S
      rw [List.append_assoc, List.singleton_append, e] at h2
      exact h2.no hG
    have hdr : d ≤ r := by
      apply Classical.byContradiction
      intro hn
      exact hr.n ⟨by omega, by omega, hlvl (x + r) (by omega) (by omega)⟩
    have hr0 : r ≠ 0 := by omega
    rw [fills_node hm hr hr0]
    have hr6 : d ≤ min r 6 := by have := hr.w; have := hfl.len; omega
    refine List.mem_flatMap.2 ⟨d - 1, List.mem_range.2 (by omega), ?_⟩
    unfold stepF
    have ed : d - 1 + 1 = d := by omega
    rw [ed]
    refine List.mem_map.2 ⟨S, ih (P ++ [q]) (liftF f x d d) k (by rw [List.append_assoc]; exact e) (by simp at hk; omega) (hfl.next hm hr hdr).1 ?_ ?_, by rw [hqe]⟩
    · have := hst.next (s := (d : Int)) hm (by omega) (by simpa using hxd) (by simpa using hlvl)
      rw [← hqe] at this
      simpa using this
    · have := hsu.next (x := x) (y := (y' : Int)) (s := (d : Int)) (by omega) (by simpa using hlvl)
      rw [← hqe] at this
      simpa using this
theorem fills_have {W H : Nat} {L : List Sq} (hG : Good W H L) (h6 : W ≤ 6) : L ∈ fills 6 H (W * H) (List.replicate W 0) := by
  have hF := good_fill hG
  have hl : (L.length : Int) ≤ area L := by
    have : ∀ M : List Sq, (∀ s ∈ M, 1 ≤ s.d) → (M.length : Int) ≤ area M := by
      intro M
      induction M with
      | nil => intro _; simp [area]
      | cons a M im =>
        intro hM
        have := im fun s hs => hM s (List.mem_cons_of_mem _ hs)
        have h1 := hM a List.mem_cons_self
        have := Int.mul_pos (show 0 < a.d by omega) (show 0 < a.d by omega)
        simp only [area, List.length_cons]; omega
    exact this L fun s hs => by have := hF.within s hs; unfold Within at this; omega
  refine fills_all hG h6 L [] _ _ rfl ?_ (Fl.start W (by omega)) (StF.start W) fun p hp => by cases hp
  have := hG.2.2.2.2
  have e : ((W * H : Nat) : Int) = W * H := by simp
  omega
namespace F
theorem srt_eq {L M : List Sq} (h : L.Perm M) (hd : Dist M) : srt L = srt M := srt_uniq ((srt_perm L).trans h) (srt_pair L) hd
theorem tC_mC {c : Ct} (h : GoodC c) : tC (mC c) = mC (it 3 c) := by
  obtain ⟨W, H, L⟩ := c
  have e : mirL H (turnL H (turnL W (turnL H L))) = turnL H (mirL W L) := by
    unfold turnL mirL
    simp only [List.map_map]
    refine List.map_congr_left fun s _ => ?_
    show mirS H (turnS H (turnS W (turnS H s))) = turnS H (mirS W s)
    cases s
    simp only [turnS, mirS, Sq.mk.injEq, and_true]
    omega
  have hF : Fill H W (turnL H (mirL W L)) := fill_turn (fill_mir (good_fill h))
  have h1 : (turnL H (srt (mirL W L))).Perm (turnL H (mirL W L)) := turn_srt H _
  have h2 : (mirL H (srt (turnL H (srt (turnL W (srt (turnL H L))))))).Perm (turnL H (mirL W L)) := by
    rw [← e]
    refine (mir_srt H _).trans (List.Perm.map _ ?_)
    exact (turn_srt H _).trans (turn_perm H ((turn_srt W _)))
  show Ct.mk H W (srt (turnL H (srt (mirL W L)))) = Ct.mk H W (srt (mirL H (srt (turnL H (srt (turnL W (srt (turnL H L))))))))
  rw [srt_eq h1 hF.dist, srt_eq h2 hF.dist]
theorem it_mC {c : Ct} (h : GoodC c) (i : Nat) : it i (mC c) = mC (it (3 * i) c) := by
  induction i with
  | zero => rfl
  | succ i ih =>
    show tC (it i (mC c)) = _
    rw [ih, tC_mC (good_it h _), it_add]
    congr 2
    omega
theorem it_low {c : Ct} (hG : GoodC c) : ∀ n, ∃ i, i < 4 ∧ it n c = it i c := by
  intro n
  induction n using Nat.strongRecOn with
  | _ n ih =>
    by_cases e : n < 4
    · exact ⟨n, e, rfl⟩
    · obtain ⟨i, h1, h2⟩ := ih (n - 4) (by omega)
      refine ⟨i, h1, ?_⟩
      rw [← h2, ← it_round hG (n - 4)]
      congr 1
      omega
theorem SM_iff {c y : Ct} (hG : GoodC c) : SM c 4 0 y ↔ ∃ n, (it n c).h ≤ (it n c).w ∧ (y = it n c ∨ y = mC (it n c)) := by
  unfold SM
  constructor
  · rintro (⟨i, _, h⟩ | ⟨_, h | h⟩)
    · exact ⟨i, h⟩
    · omega
    · omega
  · rintro ⟨n, h⟩
    obtain ⟨i, h1, h2⟩ := it_low hG n
    rw [h2] at h
    exact .inl ⟨i, h1, h⟩
theorem SM_it {c y : Ct} (hG : GoodC c) (m : Nat) : SM (it m c) 4 0 y ↔ SM c 4 0 y := by
  rw [SM_iff hG, SM_iff (good_it hG m)]
  constructor
  · rintro ⟨n, h⟩
    rw [it_add] at h
    exact ⟨_, h⟩
  · rintro ⟨n, h⟩
    refine ⟨n + 3 * m, ?_⟩
    rw [it_add]
    have : it (n + 3 * m + m) c = it n c := by
      have key : ∀ k, it (n + 4 * k) c = it n c := by
        intro k
        induction k with
        | zero => rfl
        | succ k ih => rw [← ih, ← it_round hG (n + 4 * k)]; rfl
      rw [← key m]
      congr 1
      omega
    rw [this]
    exact h
theorem SM_mC1 {c y : Ct} (hG : GoodC c) (h : SM (mC c) 4 0 y) : SM c 4 0 y := by
  rw [SM_iff (good_m hG)] at h
  rw [SM_iff hG]
  obtain ⟨n, h1, h2⟩ := h
  rw [it_mC hG] at h1 h2
  rw [mC_mC (good_it hG _)] at h2
  exact ⟨3 * n, h1, h2.symm⟩
theorem SM_mC {c y : Ct} (hG : GoodC c) : SM (mC c) 4 0 y ↔ SM c 4 0 y :=
  ⟨SM_mC1 hG, fun h => SM_mC1 (good_m hG) (by rw [mC_mC hG]; exact h)⟩
theorem SM_same {c b y : Ct} (hG : GoodC c) (h : SM c 4 0 b) : SM b 4 0 y ↔ SM c 4 0 y := by
  obtain ⟨n, _, rfl | rfl⟩ := (SM_iff hG).1 h
  · exact SM_it hG n
  · rw [SM_mC (good_it hG n), SM_it hG n]
theorem firstC_congr {b c : Ct} (h : ∀ y, SM b 4 0 y ↔ SM c 4 0 y) : firstC b = firstC c := by
  unfold firstC
  have : SM b 4 0 = SM c 4 0 := funext fun y => propext (h y)
  rw [this]
theorem firstC_idem {c : Ct} (hG : GoodC c) : firstC (firstC c) = firstC c := firstC_congr fun _ => SM_same hG (first_in hG)
theorem firstC_tC {c : Ct} (hG : GoodC c) : firstC (tC c) = firstC c := firstC_congr fun _ => SM_it hG 1
end F
noncomputable def ftL (W H : Nat) : List (List Sq) := (allF (max W H) (min W H)).filter fun L => dc ((F.firstC ⟨(max W H : Nat), (min W H : Nat), L⟩).l = L)
theorem ft_mem {W H : Nat} (h1 : 1 ≤ W ∧ W ≤ 6) (h2 : 1 ≤ H ∧ H ≤ 6) (hgood : ∀ a b : Nat, (a = W ∧ b = H) ∨ (a = max W H ∧ b = min W H) → ∀ L ∈ allF a b, Good a b L) (x : List Sq) :
    x ∈ ftL W H ↔ ∃ L ∈ allF W H, (F.firstC ⟨W, H, L⟩).l = x := by
  unfold ftL
  rw [List.mem_filter, dc_iff]
  constructor
  · rintro ⟨hx, he⟩
    have hG := hgood _ _ (.inr ⟨rfl, rfl⟩) x hx
    by_cases hw : H ≤ W
    · rw [show max W H = W by omega, show min W H = H by omega] at hx he hG
      exact ⟨x, hx, he⟩
    · rw [show max W H = H by omega, show min W H = W by omega] at hx he hG
      have hT : F.GoodC (F.tC ⟨(H : Int), (W : Int), x⟩) := F.good_t hG
      refine ⟨(F.tC ⟨(H : Int), (W : Int), x⟩).l, fills_have hT h1.2, ?_⟩
      have := F.firstC_tC (c := ⟨(H : Int), (W : Int), x⟩) hG
      show (F.firstC (F.tC ⟨(H : Int), (W : Int), x⟩)).l = x
      rw [this]; exact he
  · rintro ⟨L, hL, rfl⟩
    have hG : F.GoodC ⟨W, H, L⟩ := hgood _ _ (.inl ⟨rfl, rfl⟩) L hL
    have hin := F.first_in hG
    have hd := F.SM_dims hin
    have hb := F.SM_good hG hin
    have hi := F.firstC_idem hG
    obtain ⟨b, hbe⟩ : ∃ b, F.firstC ⟨W, H, L⟩ = b := ⟨_, rfl⟩
    rw [hbe] at hd hb hi ⊢
    obtain ⟨bw, bh, bl⟩ := b
    have e1 : bw = ((max W H : Nat) : Int) := by have := hd.1; simp only at this; omega
    have e2 : bh = ((min W H : Nat) : Int) := by have := hd.2; simp only at this; omega
    subst e1
    subst e2
    refine ⟨fills_have hb (by omega), ?_⟩
    rw [hi]
theorem ft_sorted {W H : Nat} (h1 : 1 ≤ W) (h2 : 1 ≤ H) : (ftL W H).Pairwise F.ltQ := by
  unfold ftL
  exact (fills_order (by omega) (Fl.start _ (by omega))).sublist List.filter_sublist
end Go.Proofs.Ytdpbjmdgjhleeaa
namespace Go.Proofs.Ytdpbjmdgjhleeaa
open Go.RowKit

/-- What is kept of the first m ones if neighbours with the same squares are one. -/
noncomputable def ddK {α : Type} (f : α → List Sq) (T : List α) : Nat → List α
  | 0 => []
  | m + 1 => match T[m]? with
    | none => ddK f T m
    | some x => if dc (m ≠ 0 ∧ (T[m - 1]?.map f) = some (f x)) then ddK f T m else ddK f T m ++ [x]
theorem ddK_sub {α : Type} (f : α → List Sq) (T : List α) : ∀ m, (ddK f T m).Sublist (T.take m)
  | 0 => by simp [ddK]
  | m + 1 => by
    have ih := ddK_sub f T m
    rw [ddK]
    cases h : T[m]? with
    | none =>
      rw [List.take_add_one, h]
      simpa using ih
    | some x =>
      rw [List.take_add_one, h]
      simp only
      split
      · exact ih.trans (List.sublist_append_left _ _)
      · exact ih.append (List.Sublist.refl _)
theorem ddK_len {α : Type} (f : α → List Sq) (T : List α) (m : Nat) : (ddK f T m).length ≤ m := by
  have := (ddK_sub f T m).length_le
  rw [List.length_take] at this
  omega
theorem ddK_new {α : Type} {f : α → List Sq} {T : List α} {m : Nat} {x y : α} (hx : T[m + 1]? = some x) (hy : T[m]? = some y) (hne : f x ≠ f y) : ddK f T (m + 2) = ddK f T (m + 1) ++ [x] := by
  rw [ddK, hx]
  simp only [Nat.add_sub_cancel, hy, Option.map_some, Option.some.injEq]
  rw [dc_false fun h => hne h.2.symm]
  rfl
theorem ddK_old {α : Type} {f : α → List Sq} {T : List α} {m : Nat} {x y : α} (hx : T[m + 1]? = some x) (hy : T[m]? = some y) (he : f x = f y) : ddK f T (m + 2) = ddK f T (m + 1) := by
  rw [ddK, hx]
  simp only [Nat.add_sub_cancel, hy, Option.map_some, Option.some.injEq]
  rw [dc_true ⟨by omega, he.symm⟩]
  rfl
theorem ddK_one {α : Type} {f : α → List Sq} {T : List α} {x : α} (hx : T[0]? = some x) : ddK f T 1 = [x] := by
  rw [ddK, hx]; simp [ddK, dc_false]
theorem ddK_all {α : Type} {f : α → List Sq} {T : List α} (hT : T.Pairwise fun a b => ¬ F.ltQ (f b) (f a)) : ∀ m, m ≤ T.length → (ddK f T m).Pairwise (fun a b => F.ltQ (f a) (f b)) ∧ ∀ y ∈ T.take m, f y ∈ (ddK f T m).map f
  | 0, _ => by simp [ddK]
  | 1, h => by
    obtain ⟨x, hx⟩ : ∃ x, T[0]? = some x := ⟨_, List.getElem?_eq_getElem (by omega)⟩
    rw [ddK_one hx, List.take_add_one, hx]
    simp
  | m + 2, h => by
    obtain ⟨h1, h2⟩ := ddK_all hT (m + 1) (by omega)
    obtain ⟨x, hx⟩ : ∃ x, T[m + 1]? = some x := ⟨_, List.getElem?_eq_getElem (by omega)⟩
    obtain ⟨y, hy⟩ : ∃ y, T[m]? = some y := ⟨_, List.getElem?_eq_getElem (by omega)⟩
    obtain ⟨hxl, hxe⟩ := List.getElem?_eq_some_iff.1 hx
    obtain ⟨hyl, hye⟩ := List.getElem?_eq_some_iff.1 hy
    have hg := List.pairwise_iff_getElem.1 hT
    have hym : y ∈ T.take (m + 1) := by rw [List.take_add_one, hy]; simp
    by_cases he : f x = f y
    · rw [ddK_old hx hy he]
      refine ⟨h1, fun z hz => ?_⟩
      rw [List.take_add_one, hx] at hz
      rcases List.mem_append.1 hz with hz | hz
      · exact h2 z hz
      · simp at hz; subst hz; rw [he]; exact h2 y hym
    · rw [ddK_new hx hy he]
      refine ⟨List.pairwise_append.2 ⟨h1, List.pairwise_singleton _ _, fun a ha b hb => ?_⟩, fun z hz => ?_⟩
      · simp at hb; subst hb
        have ha' := (ddK_sub f T (m + 1)).subset ha
        obtain ⟨i, hi, e⟩ := List.mem_iff_getElem.1 ha'
        rw [List.length_take] at hi
        rw [List.getElem_take] at e
        have k1 := hg i (m + 1) (by omega) hxl (by omega)
        rw [e, hxe] at k1
        by_cases hlt : F.ltQ (f a) (f b)
        · exact hlt
        · have e2 := F.ltQ_tri _ _ hlt k1
          have k2 := hg m (m + 1) hyl hxl (by omega)
          rw [hye, hxe] at k2
          have k3 : ¬ F.ltQ (f y) (f a) := by
            by_cases ei : i = m
            · subst ei; rw [← e, hye]; exact F.ltQ_irrefl _
            · have := hg i m (by omega) hyl (by omega)
              rw [e, hye] at this
              exact this
          rw [e2] at k3
          exact absurd (F.ltQ_tri _ _ k2 k3) he
      · rw [List.take_add_one, hx] at hz
        rw [List.map_append]
        rcases List.mem_append.1 hz with hz | hz
        · exact List.mem_append_left _ (h2 z hz)
        · simp at hz; subst hz; simp
/-- Lists that rise and have the same members are the same. -/
theorem rise_uniq {L M : List (List Sq)} (hL : L.Pairwise F.ltQ) (hM : M.Pairwise F.ltQ) (h : ∀ x, x ∈ L ↔ x ∈ M) : L = M := by
  have n1 : L.Nodup := hL.imp fun {a b} hab e => by subst e; exact F.ltQ_irrefl _ hab
  have n2 : M.Nodup := hM.imp fun {a b} hab e => by subst e; exact F.ltQ_irrefl _ hab
  have hp : L.Perm M := (List.perm_ext_iff_of_nodup n1 n2).2 h
  exact List.Perm.eq_of_pairwise (le := F.ltQ) (fun a b _ _ h1 h2 => absurd (F.ltQ_trans _ _ _ h1 h2) (F.ltQ_irrefl _)) hL hM hp
/-- Sorted, and each once: it is the list that rises and has the same members. -/
theorem dd_is {α : Type} {f : α → List Sq} {R T : List α} {M : List (List Sq)} (hp : T.Perm R) (hT : T.Pairwise fun a b => ¬ F.ltQ (f b) (f a)) (hM : M.Pairwise F.ltQ) (h : ∀ x, x ∈ R.map f ↔ x ∈ M) : (ddK f T T.length).map f = M := by
  obtain ⟨h1, h2⟩ := ddK_all hT T.length (Nat.le_refl _)
  refine rise_uniq (List.pairwise_map.2 h1) hM fun x => ?_
  rw [← h]
  constructor
  · intro hx
    obtain ⟨y, hy, rfl⟩ := List.mem_map.1 hx
    have := (ddK_sub f T T.length).subset hy
    exact List.mem_map_of_mem (hp.mem_iff.1 (List.mem_of_mem_take this))
  · intro hx
    obtain ⟨y, hy, rfl⟩ := List.mem_map.1 hx
    exact h2 y (by rw [List.take_length]; exact hp.mem_iff.2 hy)
end Go.Proofs.Ytdpbjmdgjhleeaa
