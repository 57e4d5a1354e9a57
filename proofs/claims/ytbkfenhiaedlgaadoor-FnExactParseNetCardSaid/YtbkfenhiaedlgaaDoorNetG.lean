/- Nets: what is seen from the first node. No program in sight. -/
import Derived.Test.YtbkfenhiaedlgaaDoorPlain
set_option linter.all false
namespace Go.Proofs.YtbkfenhiaedlgaaDoor
open Go.RowKit

structure Wi where
  a : Int
  b : Int

def upd (P : List (Option Int)) (p : Wi × Int) : List (Option Int) :=
  match P.getD p.1.a.toNat none, P.getD p.1.b.toNat none with
  | some x, none => P.set p.1.b.toNat (some (x - p.2))
  | none, some y => P.set p.1.a.toNat (some (y + p.2))
  | _, _ => P
def sweep (ps : List (Wi × Int)) (P : List (Option Int)) : List (Option Int) := ps.foldl upd P
def repS (ps : List (Wi × Int)) : Nat → List (Option Int) → List (Option Int)
  | 0, P => P
  | k + 1, P => sweep ps (repS ps k P)
def cntS (P : List (Option Int)) : Nat := P.countP Option.isSome
def pot0 (N : Nat) : List (Option Int) := some 0 :: List.replicate (N - 1) none
def resS (N : Nat) (ps : List (Wi × Int)) : List (Option Int) := repS ps (N - 1) (pot0 N)
def mask (P : List (Option Int)) : List Bool := P.map Option.isSome

theorem upd_cases (P : List (Option Int)) (p : Wi × Int) :
    (∃ x, P.getD p.1.a.toNat none = some x ∧ P.getD p.1.b.toNat none = none ∧ upd P p = P.set p.1.b.toNat (some (x - p.2))) ∨
    (∃ y, P.getD p.1.a.toNat none = none ∧ P.getD p.1.b.toNat none = some y ∧ upd P p = P.set p.1.a.toNat (some (y + p.2))) ∨
    ((P.getD p.1.a.toNat none).isSome = (P.getD p.1.b.toNat none).isSome ∧ upd P p = P) := by
  unfold upd
  cases ha : P.getD p.1.a.toNat none <;> cases hb : P.getD p.1.b.toNat none <;> simp
theorem upd_len (P : List (Option Int)) (p : Wi × Int) : (upd P p).length = P.length := by
  rcases upd_cases P p with ⟨x, _, _, e⟩ | ⟨x, _, _, e⟩ | ⟨_, e⟩ <;> rw [e] <;> simp
theorem sweep_len (ps : List (Wi × Int)) : ∀ P, (sweep ps P).length = P.length := by
  induction ps with
  | nil => intro P; rfl
  | cons p r ih => intro P; show (sweep r (upd P p)).length = _; rw [ih, upd_len]
theorem repS_len (ps : List (Wi × Int)) (k : Nat) (P : List (Option Int)) : (repS ps k P).length = P.length := by
  induction k with
  | zero => rfl
  | succ k ih => show (sweep ps _).length = _; rw [sweep_len, ih]
theorem pot0_len {N : Nat} (h : 1 ≤ N) : (pot0 N).length = N := by simp [pot0]; omega
theorem resS_len {N : Nat} (h : 1 ≤ N) (ps : List (Wi × Int)) : (resS N ps).length = N := by unfold resS; rw [repS_len, pot0_len h]

theorem cnt_set {P : List (Option Int)} {k : Nat} (hk : k < P.length) (h : P.getD k none = none) (x : Int) : cntS (P.set k (some x)) = cntS P + 1 := by
  unfold cntS
  rw [List.countP_set hk]
  have e : P[k] = none := by
    rw [List.getD_eq_getElem?_getD, List.getElem?_eq_getElem hk] at h
    exact h
  simp [e]
theorem cnt_le (P : List (Option Int)) : cntS P ≤ P.length := List.countP_le_length

def InP (N : Nat) (p : Wi × Int) : Prop := 0 ≤ p.1.a ∧ p.1.a < N ∧ 0 ≤ p.1.b ∧ p.1.b < N
theorem upd_cnt {P : List (Option Int)} {p : Wi × Int} (h : InP P.length p) : (cntS (upd P p) = cntS P + 1 ∧ (P.getD p.1.a.toNat none).isSome ≠ (P.getD p.1.b.toNat none).isSome) ∨ (upd P p = P ∧ (P.getD p.1.a.toNat none).isSome = (P.getD p.1.b.toNat none).isSome) := by
  obtain ⟨h1, h2, h3, h4⟩ := h
  rcases upd_cases P p with ⟨x, ea, eb, e⟩ | ⟨x, ea, eb, e⟩ | ⟨ea, e⟩
  · left
    rw [e, cnt_set (by omega) eb, ea, eb]
    simp
  · left
    rw [e, cnt_set (by omega) ea, ea, eb]
    simp
  · exact Or.inr ⟨e, ea⟩
theorem sweep_cnt {ps : List (Wi × Int)} : ∀ {P : List (Option Int)}, (∀ p ∈ ps, InP P.length p) → cntS P ≤ cntS (sweep ps P) ∧ (cntS (sweep ps P) = cntS P → sweep ps P = P) := by
  induction ps with
  | nil => intro P _; exact ⟨Nat.le_refl _, fun _ => rfl⟩
  | cons p r ih =>
    intro P h
    have h1 := h p List.mem_cons_self
    have h2 := ih (P := upd P p) (fun q hq => by rw [upd_len]; exact h q (List.mem_cons_of_mem _ hq))
    show cntS P ≤ cntS (sweep r (upd P p)) ∧ (cntS (sweep r (upd P p)) = cntS P → sweep r (upd P p) = P)
    rcases upd_cnt h1 with ⟨e, _⟩ | ⟨e, _⟩
    · rw [e] at h2
      exact ⟨by omega, fun k => by omega⟩
    · rw [e] at h2 ⊢
      exact h2
theorem repS_stable {ps : List (Wi × Int)} {P : List (Option Int)} {j : Nat} (h : sweep ps (repS ps j P) = repS ps j P) : ∀ k, j ≤ k → repS ps k P = repS ps j P := by
  intro k hk
  induction k with
  | zero => obtain rfl : j = 0 := by omega
            rfl
  | succ k ih =>
    by_cases e : j = k + 1
    · rw [e]
    · show sweep ps (repS ps k P) = _
      rw [ih (by omega), h]
/-- A loop that stopped has the last state. -/
theorem resS_of {N : Nat} {ps : List (Wi × Int)} {j : Nat} (hN : 1 ≤ N) (hc : j + 1 ≤ cntS (repS ps j (pot0 N))) (h : sweep ps (repS ps j (pot0 N)) = repS ps j (pot0 N)) : resS N ps = repS ps j (pot0 N) := by
  have := cnt_le (repS ps j (pot0 N))
  rw [repS_len, pot0_len hN] at this
  exact repS_stable h _ (by omega)
theorem full_iff {P : List (Option Int)} : cntS P = P.length ↔ ∀ b ∈ mask P, b = true := by
  unfold cntS mask
  rw [List.countP_eq_length]
  simp
theorem sweep_succ (ps : List (Wi × Int)) (P : List (Option Int)) (k : Nat) (p : Wi × Int) (h : ps[k]? = some p) : sweep (ps.take (k + 1)) P = upd (sweep (ps.take k) P) p := by
  unfold sweep
  rw [List.take_add_one, h, List.foldl_append]
  rfl
theorem mask_len (P : List (Option Int)) : (mask P).length = P.length := by simp [mask]
theorem mask_get (P : List (Option Int)) (k : Nat) : (mask P)[k]? = (P[k]?).map Option.isSome := by simp [mask]
theorem mask_getD (P : List (Option Int)) (k : Nat) : (mask P).getD k false = (P.getD k none).isSome := by
  rw [List.getD_eq_getElem?_getD, List.getD_eq_getElem?_getD, mask_get]
  cases P[k]? <;> rfl
theorem mask_set (P : List (Option Int)) (k : Nat) (x : Int) : mask (P.set k (some x)) = (mask P).set k true := by
  unfold mask
  rw [List.map_set]; rfl
theorem set_same {α : Type} {l : List α} {k : Nat} {x : α} (h : l[k]? = some x) : l.set k x = l := by
  apply List.ext_getElem?
  intro i
  rw [List.getElem?_set]
  split
  · next e => subst e; split
              · exact h.symm
              · next hl => rw [List.getElem?_eq_none (by omega)] at h; cases h
  · rfl
/-- What the model does with the nodes that it has seen. -/
theorem mask_upd {P : List (Option Int)} {p : Wi × Int} (h : InP P.length p) :
    mask (upd P p) = if (P.getD p.1.a.toNat none).isSome ≠ (P.getD p.1.b.toNat none).isSome then ((mask P).set p.1.a.toNat true).set p.1.b.toNat true else mask P := by
  obtain ⟨h1, h2, h3, h4⟩ := h
  have ga : (mask P)[p.1.a.toNat]? = some (P.getD p.1.a.toNat none).isSome := by rw [mask_get, List.getD_eq_getElem?_getD, List.getElem?_eq_getElem (by omega)]; rfl
  have gb : (mask P)[p.1.b.toNat]? = some (P.getD p.1.b.toNat none).isSome := by rw [mask_get, List.getD_eq_getElem?_getD, List.getElem?_eq_getElem (by omega)]; rfl
  rcases upd_cases P p with ⟨x, ea, eb, e⟩ | ⟨x, ea, eb, e⟩ | ⟨ea, e⟩
  · rw [e, mask_set, if_pos (by rw [ea, eb]; simp)]
    have g : (mask P)[p.1.a.toNat]? = some true := by rw [ga, ea]; rfl
    rw [set_same g]
  · rw [e, mask_set, if_pos (by rw [ea, eb]; simp)]
    have g : ((mask P).set p.1.a.toNat true)[p.1.b.toNat]? = some true := by
      rw [List.getElem?_set]
      split
      · rw [if_pos (by rw [mask_len]; omega)]
      · rw [gb, eb]; rfl
    exact (set_same g).symm
  · rw [e, if_neg (by rw [ea]; simp)]

theorem cnt_pot0 (N : Nat) : cntS (pot0 N) = 1 := by
  unfold cntS pot0
  rw [List.countP_cons]
  simp [List.countP_replicate]
/-- More is seen with more wires. -/
def LeP (P Q : List (Option Int)) : Prop := ∀ k, (P.getD k none).isSome = true → (Q.getD k none).isSome = true
theorem LeP.refl (P : List (Option Int)) : LeP P P := fun _ h => h
theorem getD_set (P : List (Option Int)) (i k : Nat) (x : Int) : ((P.set i (some x)).getD k none).isSome = if i = k ∧ i < P.length then true else (P.getD k none).isSome := by
  rw [List.getD_eq_getElem?_getD, List.getElem?_set, List.getD_eq_getElem?_getD]
  by_cases e : i = k
  · subst e
    by_cases h : i < P.length
    · simp [h]
    · simp [h]
  · simp [e]
theorem upd_le {P Q : List (Option Int)} (h : LeP P Q) (hl : P.length = Q.length) (p p' : Wi × Int) (hp : p.1 = p'.1) : LeP (upd P p) (upd Q p') := by
  intro k hk
  have k1 : (P.getD k none).isSome = true → ((upd Q p').getD k none).isSome = true := fun e => by
    rcases upd_cases Q p' with ⟨x, ea, eb, e'⟩ | ⟨x, ea, eb, e'⟩ | ⟨ea, e'⟩ <;> rw [e'] <;> try rw [getD_set]
    · split; rfl; exact h k e
    · split; rfl; exact h k e
    · exact h k e
  have hQa : ∀ k, (P.getD k none).isSome = true → (Q.getD k none).isSome = true := h
  rcases upd_cases P p with ⟨x, ea, eb, e⟩ | ⟨x, ea, eb, e⟩ | ⟨ea, e⟩
  · rw [e, getD_set] at hk
    split at hk
    · next hh =>
      obtain ⟨hh1, hh2⟩ := hh
      have qa := hQa p.1.a.toNat (by rw [ea]; rfl)
      rcases upd_cases Q p' with ⟨x, ea', eb', e'⟩ | ⟨x, ea', eb', e'⟩ | ⟨ea', e'⟩
      · rw [e', getD_set, if_pos ⟨by rw [← hp]; exact hh1, by rw [← hp]; omega⟩]
      · rw [hp] at qa; rw [ea'] at qa; cases qa
      · rw [e', ← hh1, hp, ← ea', ← hp]; exact qa
    · exact k1 hk
  · rw [e, getD_set] at hk
    split at hk
    · next hh =>
      obtain ⟨hh1, hh2⟩ := hh
      have qb := hQa p.1.b.toNat (by rw [eb]; rfl)
      rcases upd_cases Q p' with ⟨x, ea', eb', e'⟩ | ⟨x, ea', eb', e'⟩ | ⟨ea', e'⟩
      · rw [hp] at qb; rw [eb'] at qb; cases qb
      · rw [e', getD_set, if_pos ⟨by rw [← hp]; exact hh1, by rw [← hp]; omega⟩]
      · rw [e', ← hh1, hp, ea', ← hp]; exact qb
    · exact k1 hk
  · rw [e] at hk; exact k1 hk
theorem upd_ge (Q : List (Option Int)) (p : Wi × Int) : LeP Q (upd Q p) := by
  intro k hk
  rcases upd_cases Q p with ⟨x, ea, eb, e'⟩ | ⟨x, ea, eb, e'⟩ | ⟨ea, e'⟩ <;> rw [e'] <;> try rw [getD_set]
  · split; rfl; exact hk
  · split; rfl; exact hk
  · exact hk
theorem LeP.trans {P Q R : List (Option Int)} (h : LeP P Q) (h' : LeP Q R) : LeP P R := fun k e => h' k (h k e)
/-- The wires alone tell what is seen, not the currents. -/
theorem sweep_le {ps qs : List (Wi × Int)} (he : ps.map Prod.fst <+: qs.map Prod.fst) : ∀ {P Q : List (Option Int)}, LeP P Q → P.length = Q.length → LeP (sweep ps P) (sweep qs Q) := by
  induction ps generalizing qs with
  | nil =>
    intro P Q h hl
    clear he
    induction qs generalizing Q with
    | nil => exact h
    | cons q r ih =>
      exact ih (h.trans (upd_ge Q q)) (by rw [upd_len]; exact hl)
  | cons p r ih =>
    intro P Q h hl
    cases qs with
    | nil => obtain ⟨t, ht⟩ := he; simp at ht
    | cons q s =>
      obtain ⟨t, ht⟩ := he
      simp only [List.map_cons, List.cons_append, List.cons.injEq] at ht
      exact ih (qs := s) ⟨t, ht.2⟩ (upd_le h hl p q ht.1) (by rw [upd_len, upd_len]; exact hl)
theorem repS_le {ps qs : List (Wi × Int)} (he : ps.map Prod.fst <+: qs.map Prod.fst) (k : Nat) (P : List (Option Int)) : LeP (repS ps k P) (repS qs k P) := by
  induction k with
  | zero => exact LeP.refl _
  | succ k ih => exact sweep_le he ih (by rw [repS_len, repS_len])
theorem cnt_mono {P Q : List (Option Int)} (h : LeP P Q) (hl : P.length = Q.length) (hf : cntS P = P.length) : cntS Q = Q.length := by
  unfold cntS at hf ⊢
  rw [List.countP_eq_length] at hf ⊢
  intro x hx
  obtain ⟨i, hi, rfl⟩ := List.mem_iff_getElem.1 hx
  have := h i (by rw [List.getD_eq_getElem?_getD, List.getElem?_eq_getElem (by omega)]; exact hf _ (List.getElem_mem (by omega)))
  rw [List.getD_eq_getElem?_getD, List.getElem?_eq_getElem hi] at this
  exact this

/-- The sizes of what is told of the nodes. -/
def BdP (B : Int) (P : List (Option Int)) : Prop := ∀ (k : Nat) x, P.getD k none = some x → -(B * (cntS P : Int)) ≤ x ∧ x ≤ B * (cntS P : Int)
theorem upd_bd {B : Int} {P : List (Option Int)} {p : Wi × Int} (hB : 0 ≤ B) (h : InP P.length p) (hp : -B ≤ p.2 ∧ p.2 ≤ B) (hb : BdP B P) : BdP B (upd P p) := by
  obtain ⟨h1, h2, h3, h4⟩ := id h
  intro k x hx
  have key : ∀ (i : Nat) (y : Int), i < P.length → P.getD i none = none → upd P p = P.set i (some y) → (∃ j z, P.getD j none = some z ∧ -B + z ≤ y ∧ y ≤ z + B) → -(B * (cntS (upd P p) : Int)) ≤ x ∧ x ≤ B * (cntS (upd P p) : Int) := by
    rintro i y hi hn e ⟨j, z, hz, hy⟩
    rw [e] at hx ⊢
    rw [cnt_set hi hn]
    have hz2 := hb j z hz
    have em : B * ((cntS P + 1 : Nat) : Int) = B * (cntS P : Int) + B := by rw [Int.natCast_add, Int.mul_add]; simp
    rw [em]
    rw [List.getD_eq_getElem?_getD, List.getElem?_set] at hx
    by_cases ei : i = k
    · rw [if_pos ei, if_pos hi] at hx
      simp at hx
      omega
    · rw [if_neg ei] at hx
      have := hb k x (by rw [List.getD_eq_getElem?_getD]; exact hx)
      omega
  rcases upd_cases P p with ⟨z, ea, eb, e⟩ | ⟨z, ea, eb, e⟩ | ⟨ea, e⟩
  · exact key _ _ (by omega) eb e ⟨_, z, ea, by omega, by omega⟩
  · exact key _ _ (by omega) ea e ⟨_, z, eb, by omega, by omega⟩
  · rw [e] at hx ⊢; exact hb k x hx
theorem pot0_bd {B : Int} (hB : 0 ≤ B) (N : Nat) : BdP B (pot0 N) := by
  intro k x hx
  rw [cnt_pot0]
  unfold pot0 at hx
  cases k with
  | zero => simp at hx; omega
  | succ k =>
    rw [List.getD_eq_getElem?_getD, List.getElem?_cons_succ, List.getElem?_replicate] at hx
    split at hx <;> simp at hx
theorem sweep_bd {B : Int} {ps : List (Wi × Int)} (hB : 0 ≤ B) : ∀ {P : List (Option Int)}, (∀ p ∈ ps, InP P.length p) → (∀ p ∈ ps, -B ≤ p.2 ∧ p.2 ≤ B) → BdP B P → BdP B (sweep ps P) := by
  induction ps with
  | nil => intro P _ _ h; exact h
  | cons p r ih =>
    intro P h h2 hb
    exact ih (P := upd P p) (fun q hq => by rw [upd_len]; exact h q (List.mem_cons_of_mem _ hq)) (fun q hq => h2 q (List.mem_cons_of_mem _ hq)) (upd_bd hB (h p List.mem_cons_self) (h2 p List.mem_cons_self) hb)

/-- A wire of a net with so many nodes. -/
def WOk (N : Int) (w : Wi) : Prop := w.a ≠ w.b ∧ 0 ≤ w.a ∧ w.a < N ∧ 0 ≤ w.b ∧ w.b < N
def zps (ws : List Wi) : List (Wi × Int) := ws.map fun w => (w, 0)
def NetG (N : Int) (ws : List Wi) : Prop := (2 ≤ N ∧ N ≤ 12) ∧ (1 ≤ ws.length ∧ ws.length ≤ 30) ∧ (∀ w ∈ ws, WOk N w) ∧ cntS (resS N.toNat (zps ws)) = N.toNat
theorem repS_nil (k : Nat) (P : List (Option Int)) : repS [] k P = P := by
  induction k with
  | zero => rfl
  | succ k ih => show sweep [] (repS [] k P) = P; rw [ih]; rfl
theorem netG_iff {N : Int} {ws : List Wi} : NetG N ws ↔ (2 ≤ N ∧ N ≤ 12) ∧ ws.length ≤ 30 ∧ (∀ w ∈ ws, WOk N w) ∧ cntS (resS N.toNat (zps ws)) = N.toNat := by
  constructor
  · exact fun ⟨h1, h2, h3, h4⟩ => ⟨h1, h2.2, h3, h4⟩
  · rintro ⟨h1, h2, h3, h4⟩
    refine ⟨h1, ⟨?_, h2⟩, h3, h4⟩
    cases ws with
    | nil =>
      exfalso
      have e : cntS (resS N.toNat (zps [])) = 1 := by
        unfold resS
        rw [show zps [] = [] from rfl, repS_nil, cnt_pot0]
      omega
    | cons a r => simp
theorem zps_fst (ws : List Wi) : (zps ws).map Prod.fst = ws := by
  unfold zps
  rw [List.map_map]
  exact List.map_id' ws
theorem netG_add {N : Int} {ws : List Wi} {w : Wi} (h : NetG N ws) : NetG N (ws ++ [w]) ↔ WOk N w ∧ ws.length < 30 := by
  obtain ⟨h1, h2, h3, h4⟩ := h
  have hl : (resS N.toNat (zps ws)).length = N.toNat := resS_len (by omega) _
  have hl' : (resS N.toNat (zps (ws ++ [w]))).length = N.toNat := resS_len (by omega) _
  constructor
  · rintro ⟨_, g2, g3, _⟩
    rw [List.length_append] at g2
    exact ⟨g3 w (by simp), by simp at g2; omega⟩
  · rintro ⟨g1, g2⟩
    refine ⟨h1, by rw [List.length_append]; simp; omega, ?_, ?_⟩
    · intro v hv
      rcases List.mem_append.1 hv with hv | hv
      · exact h3 v hv
      · simp at hv; subst hv; exact g1
    · have := cnt_mono (repS_le (ps := zps ws) (qs := zps (ws ++ [w])) (by rw [zps_fst, zps_fst]; exact ⟨_, rfl⟩) (N.toNat - 1) (pot0 N.toNat)) (by rw [repS_len, repS_len]) (h4.trans hl.symm)
      exact this.trans hl'
theorem inP_of {N : Int} {ws : List Wi} {cs : List Int} {P : List (Option Int)} (h : ∀ w ∈ ws, WOk N w) (hP : (P.length : Int) = N) : ∀ p ∈ ws.zip cs, InP P.length p := by
  intro p hp
  have := h p.1 (List.of_mem_zip hp).1
  unfold WOk at this
  unfold InP
  omega
end Go.Proofs.YtbkfenhiaedlgaaDoor
