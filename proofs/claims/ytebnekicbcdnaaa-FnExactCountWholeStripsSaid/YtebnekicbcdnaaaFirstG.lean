/- The first one of the turned and mirrored cuts: plain. -/
import Derived.Test.YtebnekicbcdnaaaGeo
set_option linter.all false
namespace Go.Proofs.Ytebnekicbcdnaaa
namespace F
structure Ct where
  w : Int
  h : Int
  l : List Sq
def tC (c : Ct) : Ct := ⟨c.h, c.w, srt (turnL c.h c.l)⟩
def mC (c : Ct) : Ct := ⟨c.w, c.h, srt (mirL c.w c.l)⟩
def GoodC (c : Ct) : Prop := Good c.w c.h c.l
theorem good_t {c : Ct} (h : GoodC c) : GoodC (tC c) := good_turn h
theorem good_m {c : Ct} (h : GoodC c) : GoodC (mC c) := good_mir h
theorem turn_srt (H : Int) (M : List Sq) : (turnL H (srt M)).Perm (turnL H M) := (srt_perm M).map _
theorem mir_srt (W : Int) (M : List Sq) : (mirL W (srt M)).Perm (mirL W M) := (srt_perm M).map _
theorem turn_perm (H : Int) {M N : List Sq} (h : M.Perm N) : (turnL H M).Perm (turnL H N) := h.map _
theorem mC_mC {c : Ct} (h : GoodC c) : mC (mC c) = c := by
  obtain ⟨W, H, L⟩ := c
  have hl : mirL W (mirL W L) = L := by
    unfold mirL
    rw [List.map_map]
    conv => rhs; rw [← List.map_id L]
    refine List.map_congr_left fun s _ => ?_
    show mirS W (mirS W s) = s
    cases s
    simp only [mirS, Sq.mk.injEq, and_self, and_true]
    omega
  have hp : L.Perm (mirL W (srt (mirL W L))) := by
    have := mir_srt W (mirL W L)
    rw [hl] at this
    exact this.symm
  have hs : L.Pairwise (fun a b => leB a b = true) := (good_pair h).imp fun k => leB_of_lt k
  show Ct.mk W H (srt (mirL W (srt (mirL W L)))) = _
  rw [← srt_uniq hp hs (fill_mir (good_fill (good_m h))).dist]
theorem tC_four {c : Ct} (h : GoodC c) : tC (tC (tC (tC c))) = c := by
  obtain ⟨W, H, L⟩ := c
  have hl : turnL W (turnL H (turnL W (turnL H L))) = L := by
    unfold turnL
    simp only [List.map_map]
    conv => rhs; rw [← List.map_id L]
    refine List.map_congr_left fun s _ => ?_
    show turnS W (turnS H (turnS W (turnS H s))) = s
    cases s
    simp only [turnS, Sq.mk.injEq, and_true]
    omega
  have hp : L.Perm (turnL W (srt (turnL H (srt (turnL W (srt (turnL H L))))))) := by
    have h1 := turn_srt W (turnL H (srt (turnL W (srt (turnL H L)))))
    have h2 := turn_perm W (turn_srt H (turnL W (srt (turnL H L))))
    have h3 := turn_perm W (turn_perm H (turn_srt W (turnL H L)))
    rw [hl] at h3
    exact ((h1.trans h2).trans h3).symm
  have hs : L.Pairwise (fun a b => leB a b = true) := (good_pair h).imp fun k => leB_of_lt k
  show Ct.mk W H (srt (turnL W (srt (turnL H (srt (turnL W (srt (turnL H L)))))))) = _
  rw [← srt_uniq hp hs (fill_turn (good_fill (good_t (good_t (good_t h))))).dist]
/-- Turned n times. -/
def it : Nat → Ct → Ct
  | 0, c => c
  | n + 1, c => tC (it n c)
theorem good_it {c : Ct} (h : GoodC c) (n : Nat) : GoodC (it n c) := by
  induction n with
  | zero => exact h
  | succ n ih => exact good_t ih
theorem it_add (c : Ct) (m n : Nat) : it n (it m c) = it (n + m) c := by
  induction n with
  | zero => rw [Nat.zero_add]; rfl
  | succ n ih => rw [Nat.succ_add]; show tC (it n (it m c)) = tC (it (n + m) c); rw [ih]
theorem it_four {c : Ct} (h : GoodC c) : it 4 c = c := tC_four h
theorem it_round {c : Ct} (h : GoodC c) (n : Nat) : it (n + 4) c = it n c := by rw [← it_add, it_four h]
theorem it_dims (c : Ct) (n : Nat) : ((it n c).w = c.w ∧ (it n c).h = c.h) ∧ n % 2 = 0 ∨ ((it n c).w = c.h ∧ (it n c).h = c.w) ∧ n % 2 = 1 := by
  induction n with
  | zero => exact .inl ⟨⟨rfl, rfl⟩, rfl⟩
  | succ n ih =>
    rcases ih with ⟨⟨h1, h2⟩, h3⟩ | ⟨⟨h1, h2⟩, h3⟩
    · exact .inr ⟨⟨h2, h1⟩, by omega⟩
    · exact .inl ⟨⟨h2, h1⟩, by omega⟩

def ltS (a b : Sq) : Prop := a.x < b.x ∨ a.x = b.x ∧ (a.y < b.y ∨ a.y = b.y ∧ a.d < b.d)
theorem ltS_tri {a b : Sq} (h : ¬ ltS a b) (k : ¬ ltS b a) : a = b := by
  obtain ⟨x, y, d⟩ := a
  obtain ⟨x', y', d'⟩ := b
  unfold ltS at h k
  simp only at h k
  obtain rfl : x = x' := by omega
  obtain rfl : y = y' := by omega
  obtain rfl : d = d' := by omega
  rfl
theorem ltS_trans {a b c : Sq} (h : ltS a b) (k : ltS b c) : ltS a c := by unfold ltS at *; omega
theorem ltS_irrefl (a : Sq) : ¬ ltS a a := by unfold ltS; omega
/-- Lists in their order: the first square that differs decides. -/
def ltQ : List Sq → List Sq → Prop
  | [], [] => False
  | [], _ :: _ => True
  | _ :: _, [] => False
  | s :: a, q :: b => ltS s q ∨ s = q ∧ ltQ a b
theorem ltQ_tri : ∀ (a b : List Sq), ¬ ltQ a b → ¬ ltQ b a → a = b
  | [], [], _, _ => rfl
  | [], _ :: _, h, _ => absurd trivial h
  | _ :: _, [], _, k => absurd trivial k
  | s :: a, q :: b, h, k => by
    simp only [ltQ, not_or, not_and] at h k
    obtain rfl := ltS_tri h.1 k.1
    rw [ltQ_tri a b (h.2 rfl) (k.2 rfl)]
theorem ltQ_trans : ∀ (a b c : List Sq), ltQ a b → ltQ b c → ltQ a c
  | [], [], _, h, _ => absurd h id
  | _ :: _, [], _, h, _ => absurd h id
  | _, _ :: _, [], _, k => absurd k id
  | [], _ :: _, _ :: _, _, _ => trivial
  | s :: a, q :: b, r :: c, h, k => by
    simp only [ltQ] at h k ⊢
    rcases h with h | ⟨rfl, h⟩ <;> rcases k with k | ⟨rfl, k⟩
    · exact .inl (ltS_trans h k)
    · exact .inl h
    · exact .inl k
    · exact .inr ⟨rfl, ltQ_trans a b c h k⟩
theorem ltQ_irrefl : ∀ (a : List Sq), ¬ ltQ a a
  | [] => id
  | s :: a => by
    simp only [ltQ, not_or, not_and]
    exact ⟨ltS_irrefl s, fun _ => ltQ_irrefl a⟩
/-- The squares from k on decide, if those before are the same. -/
theorem ltQ_drop {a b : List Sq} {k : Nat} (hk : a.take k = b.take k) (ha : k ≤ a.length) (hb : k ≤ b.length) : ltQ a b ↔ ltQ (a.drop k) (b.drop k) := by
  induction k generalizing a b with
  | zero => simp
  | succ k ih =>
    match a, b, hk, ha, hb with
    | s :: a, q :: b, hk, ha, hb =>
      simp only [List.take_succ_cons, List.cons.injEq] at hk
      obtain ⟨rfl, hk⟩ := hk
      simp only [List.drop_succ_cons, ltQ]
      rw [← ih hk (by simpa using ha) (by simpa using hb)]
      constructor
      · rintro (h | ⟨_, h⟩)
        · exact absurd h (ltS_irrefl s)
        · exact h
      · exact fun h => .inr ⟨trivial, h⟩
theorem ltQ_at {a b : List Sq} {k : Nat} {s q : Sq} (hk : a.take k = b.take k) (hs : a[k]? = some s) (hq : b[k]? = some q) (hne : s ≠ q) : ltQ a b ↔ ltS s q := by
  have la := (List.getElem?_eq_some_iff.1 hs).1
  have lb := (List.getElem?_eq_some_iff.1 hq).1
  rw [ltQ_drop hk (by omega) (by omega), List.drop_eq_getElem_cons la, List.drop_eq_getElem_cons lb]
  have e1 := (List.getElem?_eq_some_iff.1 hs).2
  have e2 := (List.getElem?_eq_some_iff.1 hq).2
  rw [e1, e2]
  simp only [ltQ]
  constructor
  · rintro (h | ⟨h, _⟩)
    · exact h
    · exact absurd h hne
  · exact .inl
theorem ltQ_end {a b : List Sq} (hk : a.take a.length = b.take a.length) (hb : a.length ≤ b.length) : ltQ a b ↔ a.length < b.length := by
  rw [ltQ_drop hk (Nat.le_refl _) hb]
  rw [List.drop_length]
  cases e : b.drop a.length with
  | nil =>
    have : b.length ≤ a.length := by simpa using e
    simp only [ltQ, false_iff]
    omega
  | cons q r =>
    have : (b.drop a.length).length = r.length + 1 := by rw [e]; rfl
    rw [List.length_drop] at this
    simp only [ltQ, true_iff]
    omega

/-- A first one of these. -/
def Best (S : Ct → Prop) (b : Ct) : Prop := S b ∧ ∀ x, S x → ¬ ltQ x.l b.l
theorem Best.uniq {S : Ct → Prop} {b b' : Ct} (hS : ∀ x y, S x → S y → x.w = y.w ∧ x.h = y.h) (h : Best S b) (k : Best S b') : b = b' := by
  have e := ltQ_tri _ _ (k.2 b h.1) (h.2 b' k.1)
  have d := hS b b' h.1 k.1
  cases b
  cases b'
  simp only at e d
  rw [e, d.1, d.2]
theorem Best.congr {S T : Ct → Prop} {b : Ct} (h : Best S b) (e : ∀ x, S x ↔ T x) : Best T b := ⟨(e b).1 h.1, fun x hx => h.2 x ((e x).2 hx)⟩
theorem Best.yes {S : Ct → Prop} {b x : Ct} (h : Best S b) (hlt : ltQ x.l b.l) : Best (fun y => S y ∨ y = x) x := by
  refine ⟨.inr rfl, fun y hy => ?_⟩
  rcases hy with hy | rfl
  · exact fun k => h.2 y hy (ltQ_trans _ _ _ k hlt)
  · exact ltQ_irrefl _
theorem Best.no {S : Ct → Prop} {b x : Ct} (h : Best S b) (hlt : ¬ ltQ x.l b.l) : Best (fun y => S y ∨ y = x) b := by
  refine ⟨.inl h.1, fun y hy => ?_⟩
  rcases hy with hy | rfl
  · exact h.2 y hy
  · exact hlt
/-- Best, if one was found. -/
def BestO (S : Ct → Prop) (found : Bool) (b : Ct) : Prop := found = true ∧ Best S b ∨ found = false ∧ ∀ x, ¬ S x
theorem BestO.congr {S T : Ct → Prop} {f : Bool} {b : Ct} (h : BestO S f b) (e : ∀ x, S x ↔ T x) : BestO T f b := by
  rcases h with ⟨h1, h2⟩ | ⟨h1, h2⟩
  · exact .inl ⟨h1, h2.congr e⟩
  · exact .inr ⟨h1, fun x hx => h2 x ((e x).2 hx)⟩
theorem BestO.first {S : Ct → Prop} {b x : Ct} (h : BestO S false b) : BestO (fun y => S y ∨ y = x) true x := by
  rcases h with ⟨h1, _⟩ | ⟨_, h2⟩
  · cases h1
  · refine .inl ⟨rfl, .inr rfl, fun y hy => ?_⟩
    rcases hy with hy | rfl
    · exact absurd hy (h2 y)
    · exact ltQ_irrefl _
theorem BestO.yes {S : Ct → Prop} {b x : Ct} (h : BestO S true b) (hlt : ltQ x.l b.l) : BestO (fun y => S y ∨ y = x) true x := by
  rcases h with ⟨_, h2⟩ | ⟨h1, _⟩
  · exact .inl ⟨rfl, h2.yes hlt⟩
  · cases h1
theorem BestO.no {S : Ct → Prop} {b x : Ct} (h : BestO S true b) (hlt : ¬ ltQ x.l b.l) : BestO (fun y => S y ∨ y = x) true b := by
  rcases h with ⟨_, h2⟩ | ⟨h1, _⟩
  · exact .inl ⟨rfl, h2.no hlt⟩
  · cases h1

/-- What the model looks at: the first t turns, and of the next one the first m. -/
def SM (c : Ct) (t m : Nat) (y : Ct) : Prop := (∃ i, i < t ∧ (it i c).h ≤ (it i c).w ∧ (y = it i c ∨ y = mC (it i c))) ∨ ((it t c).h ≤ (it t c).w ∧ (1 ≤ m ∧ y = it t c ∨ 2 ≤ m ∧ y = mC (it t c)))
theorem SM_none (c : Ct) (y : Ct) : ¬ SM c 0 0 y := by
  rintro (⟨i, hi, _⟩ | ⟨_, h | h⟩) <;> omega
theorem SM_one {c : Ct} {t : Nat} (h : (it t c).h ≤ (it t c).w) (y : Ct) : (SM c t 0 y ∨ y = it t c) ↔ SM c t 1 y := by
  unfold SM
  constructor
  · rintro ((h' | ⟨_, h' | h'⟩) | h')
    · exact .inl h'
    · omega
    · omega
    · exact .inr ⟨h, .inl ⟨Nat.le_refl _, h'⟩⟩
  · rintro (h' | ⟨_, h' | h'⟩)
    · exact .inl (.inl h')
    · exact .inr h'.2
    · omega
theorem SM_two {c : Ct} {t : Nat} (h : (it t c).h ≤ (it t c).w) (y : Ct) : (SM c t 1 y ∨ y = mC (it t c)) ↔ SM c t 2 y := by
  unfold SM
  constructor
  · rintro ((h' | ⟨_, h' | h'⟩) | h')
    · exact .inl h'
    · exact .inr ⟨h, .inl ⟨by omega, h'.2⟩⟩
    · omega
    · exact .inr ⟨h, .inr ⟨Nat.le_refl _, h'⟩⟩
  · rintro (h' | ⟨_, h' | h'⟩)
    · exact .inl (.inl h')
    · exact .inl (.inr ⟨h, .inl ⟨Nat.le_refl _, h'.2⟩⟩)
    · exact .inr h'.2
theorem SM_skip {c : Ct} {t m : Nat} (h : ¬ (it t c).h ≤ (it t c).w) (y : Ct) : SM c t 0 y ↔ SM c t m y := by
  unfold SM
  constructor
  · rintro (h' | ⟨h', _⟩)
    · exact .inl h'
    · exact absurd h' h
  · rintro (h' | ⟨h', _⟩)
    · exact .inl h'
    · exact absurd h' h
theorem SM_next (c : Ct) (t : Nat) (y : Ct) : SM c t 2 y ↔ SM c (t + 1) 0 y := by
  unfold SM
  constructor
  · rintro (⟨i, h1, h2⟩ | ⟨h1, h2 | h2⟩)
    · exact .inl ⟨i, by omega, h2⟩
    · exact .inl ⟨t, by omega, h1, .inl h2.2⟩
    · exact .inl ⟨t, by omega, h1, .inr h2.2⟩
  · rintro (⟨i, h1, h2, h3⟩ | ⟨_, h2 | h2⟩)
    · by_cases e : i < t
      · exact .inl ⟨i, e, h2, h3⟩
      · obtain rfl : i = t := by omega
        refine .inr ⟨h2, ?_⟩
        rcases h3 with h3 | h3
        · exact .inl ⟨by omega, h3⟩
        · exact .inr ⟨by omega, h3⟩
    · omega
    · omega
/-- What the program looks at: the mirrored one, and i turns. -/
def SI (c : Ct) (i : Nat) (y : Ct) : Prop := y = mC c ∨ ∃ j, 1 ≤ j ∧ j ≤ i ∧ (it j c).h ≤ (it j c).w ∧ (y = it j c ∨ y = mC (it j c))
theorem SI_best (c : Ct) : Best (SI c 0) (mC c) := by
  refine ⟨.inl rfl, fun x hx => ?_⟩
  rcases hx with rfl | ⟨j, h1, h2, _⟩
  · exact ltQ_irrefl _
  · omega
theorem SI_skip {c : Ct} {i : Nat} (h : ¬ (it (i + 1) c).h ≤ (it (i + 1) c).w) (y : Ct) : SI c i y ↔ SI c (i + 1) y := by
  unfold SI
  constructor
  · rintro (h' | ⟨j, h1, h2, h3⟩)
    · exact .inl h'
    · exact .inr ⟨j, h1, by omega, h3⟩
  · rintro (h' | ⟨j, h1, h2, h3, h4⟩)
    · exact .inl h'
    · by_cases e : j ≤ i
      · exact .inr ⟨j, h1, e, h3, h4⟩
      · obtain rfl : j = i + 1 := by omega
        exact absurd h3 h
theorem SI_step {c : Ct} {i : Nat} (h : (it (i + 1) c).h ≤ (it (i + 1) c).w) (y : Ct) : ((SI c i y ∨ y = it (i + 1) c) ∨ y = mC (it (i + 1) c)) ↔ SI c (i + 1) y := by
  unfold SI
  constructor
  · rintro (((h' | ⟨j, h1, h2, h3⟩) | h') | h')
    · exact .inl h'
    · exact .inr ⟨j, h1, by omega, h3⟩
    · exact .inr ⟨i + 1, by omega, Nat.le_refl _, h, .inl h'⟩
    · exact .inr ⟨i + 1, by omega, Nat.le_refl _, h, .inr h'⟩
  · rintro (h' | ⟨j, h1, h2, h3, h4⟩)
    · exact .inl (.inl (.inl h'))
    · by_cases e : j ≤ i
      · exact .inl (.inl (.inr ⟨j, h1, e, h3, h4⟩))
      · obtain rfl : j = i + 1 := by omega
        rcases h4 with h4 | h4
        · exact .inl (.inr h4)
        · exact .inr h4
theorem SM_dims {c : Ct} {x : Ct} (h : SM c 4 0 x) : x.w = max c.w c.h ∧ x.h = min c.w c.h := by
  rcases h with ⟨i, _, h2, h3⟩ | ⟨_, h | h⟩
  · have d := it_dims c i
    have e : x.w = (it i c).w ∧ x.h = (it i c).h := by
      rcases h3 with rfl | rfl
      · exact ⟨rfl, rfl⟩
      · exact ⟨rfl, rfl⟩
    omega
  · omega
  · omega
/-- Where the program begins. -/
def beg (c : Ct) : Ct := if c.w < c.h then tC c else c
theorem good_beg {c : Ct} (h : GoodC c) : GoodC (beg c) := by
  unfold beg
  split
  · exact good_t h
  · exact h
theorem beg_wide (c : Ct) : (beg c).h ≤ (beg c).w := by
  unfold beg
  split
  · show c.w ≤ c.h; omega
  · omega
theorem same_sets {c : Ct} (hG : GoodC c) (y : Ct) : SI (beg c) 4 y ↔ SM c 4 0 y := by
  have hw := beg_wide c
  have key : ∃ p, p < 2 ∧ beg c = it p c := by
    unfold beg
    split
    · exact ⟨1, by omega, rfl⟩
    · exact ⟨0, by omega, rfl⟩
  obtain ⟨p, hp, hb⟩ := key
  rw [hb] at hw ⊢
  have low : ∀ n, ∃ i, i < 4 ∧ it n c = it i c := by
    intro n
    induction n using Nat.strongRecOn with
    | _ n ih =>
      by_cases e : n < 4
      · exact ⟨n, e, rfl⟩
      · obtain ⟨i, h1, h2⟩ := ih (n - 4) (by omega)
        refine ⟨i, h1, ?_⟩
        rw [← h2, ← it_round hG (n - 4)]
        congr 1
        omega
  unfold SI SM
  constructor
  · rintro (h | ⟨j, _, _, h3, h4⟩)
    · exact .inl ⟨p, by omega, hw, .inr h⟩
    · rw [it_add] at h3 h4
      obtain ⟨i, h5, h6⟩ := low (j + p)
      rw [h6] at h3 h4
      exact .inl ⟨i, h5, h3, h4⟩
  · rintro (⟨i, h1, h2, h3⟩ | ⟨_, h | h⟩)
    · by_cases e : p < i
      · refine .inr ⟨i - p, by omega, by omega, ?_⟩
        rw [it_add, show i - p + p = i by omega]
        exact ⟨h2, h3⟩
      · refine .inr ⟨i + 4 - p, by omega, by omega, ?_⟩
        rw [it_add, show i + 4 - p + p = i + 4 by omega, it_round hG]
        exact ⟨h2, h3⟩
    · omega
    · omega
theorem same_best {c b b' : Ct} (hG : GoodC c) (h : Best (SI (beg c) 4) b) (k : BestO (SM c 4 0) true b') : b = b' := by
  rcases k with ⟨_, k⟩ | ⟨k, _⟩
  · exact (h.congr (same_sets hG)).uniq (fun x y hx hy => ⟨(SM_dims hx).1.trans (SM_dims hy).1.symm, (SM_dims hx).2.trans (SM_dims hy).2.symm⟩) k
  · cases k
theorem found_all {c b : Ct} {f : Bool} (hG : GoodC c) (h : BestO (SM c 4 0) f b) : f = true := by
  rcases h with ⟨h, _⟩ | ⟨_, h⟩
  · exact h
  · exact absurd ((same_sets hG _).1 (.inl rfl)) (h (mC (beg c)))
end F
end Go.Proofs.Ytebnekicbcdnaaa
