/- Groups of squares: plain mathematics, and how a call owns them. -/
import Derived.Test.YtfkifcjjkaenhaaGreatDoorSSL
set_option linter.all false
namespace Go.Proofs.YtfkifcjjkaenhaaGreatDoor
open Go.RowKit

/-- A square goes on where another one ends. -/
def Nxt (q s : Sq) : Bool := (q.x + q.d == s.x) && (q.y == s.y)
def gstep (G : List (Sq × List Int)) (s : Sq) : List (Sq × List Int) :=
  match G.getLast? with
  | some g => if Nxt g.1 s then G.dropLast ++ [(s, g.2 ++ [s.d])] else G ++ [(s, [s.d])]
  | none => [(s, [s.d])]
/-- The groups of squares, each with its last square. -/
def grps (L : List Sq) : List (Sq × List Int) := L.foldl gstep []
theorem grps_take_succ (L : List Sq) (k : Nat) (s : Sq) (h : L[k]? = some s) : grps (L.take (k + 1)) = gstep (grps (L.take k)) s := by
  rw [List.take_add_one, h]; simp [grps, List.foldl_append]
theorem gstep_nil (s : Sq) : gstep [] s = [(s, [s.d])] := rfl
theorem gstep_on (P : List (Sq × List Int)) (g : Sq × List Int) (s : Sq) (h : Nxt g.1 s = true) : gstep (P ++ [g]) s = P ++ [(s, g.2 ++ [s.d])] := by simp [gstep, h]
theorem gstep_new (P : List (Sq × List Int)) (g : Sq × List Int) (s : Sq) (h : Nxt g.1 s = false) : gstep (P ++ [g]) s = P ++ [g] ++ [(s, [s.d])] := by simp [gstep, h]
theorem nil_or_snoc {α : Type} (G : List α) : G = [] ∨ ∃ P g, G = P ++ [g] := by
  rcases List.eq_nil_or_concat G with h | ⟨P, g, h⟩
  · exact .inl h
  · exact .inr ⟨P, g, by rw [h, List.concat_eq_append]⟩
theorem gstep_last (G : List (Sq × List Int)) (s : Sq) : ∃ P l, gstep G s = P ++ [(s, l)] := by
  rcases nil_or_snoc G with rfl | ⟨P, g, rfl⟩
  · exact ⟨[], _, rfl⟩
  · by_cases h : Nxt g.1 s = true
    · exact ⟨P, _, gstep_on P g s h⟩
    · exact ⟨P ++ [g], _, gstep_new P g s (by simpa using h)⟩
theorem grps_last (L : List Sq) (k : Nat) (s : Sq) (h : L[k]? = some s) : ∃ P l, grps (L.take (k + 1)) = P ++ [(s, l)] := by
  rw [grps_take_succ L k s h]; exact gstep_last _ s
def glists (G : List (Sq × List Int)) : List (List Int) := G.map (·.2)
theorem glists_app (G H : List (Sq × List Int)) : glists (G ++ H) = glists G ++ glists H := by simp [glists]
theorem gstep_tot (G : List (Sq × List Int)) (s : Sq) : tot (glists (gstep G s)) = tot (glists G) + 1 := by
  rcases nil_or_snoc G with rfl | ⟨P, g, rfl⟩
  · simp [gstep_nil, glists, tot]
  · by_cases h : Nxt g.1 s = true
    · rw [gstep_on P g s h]; simp [tot_app, glists, tot]; omega
    · rw [gstep_new P g s (by simpa using h)]; simp [glists, tot, tot_app]; omega
theorem gstep_len (G : List (Sq × List Int)) (s : Sq) : (gstep G s).length ≤ G.length + 1 := by
  rcases nil_or_snoc G with rfl | ⟨P, g, rfl⟩
  · simp [gstep_nil]
  · by_cases h : Nxt g.1 s = true
    · rw [gstep_on P g s h]; simp
    · rw [gstep_new P g s (by simpa using h)]; simp
theorem grps_bd (L : List Sq) (k : Nat) : (grps (L.take k)).length ≤ k ∧ tot (glists (grps (L.take k))) ≤ k := by
  induction k with
  | zero => simp [grps, glists, tot]
  | succ k ih =>
    rcases Nat.lt_or_ge k L.length with h | h
    · have hg := List.getElem?_eq_getElem h
      rw [grps_take_succ L k _ hg, gstep_tot]
      have := gstep_len (grps (L.take k)) L[k]
      omega
    · rw [List.take_of_length_le (by omega)]
      rw [List.take_of_length_le h] at ih
      omega

theorem grps_mem (L : List Sq) (k : Nat) : ∀ x ∈ grps (L.take k), x.1 ∈ L := by
  induction k with
  | zero => intro x hx; simp [grps] at hx
  | succ k ih =>
    rcases Nat.lt_or_ge k L.length with h | h
    · have hg := List.getElem?_eq_getElem h
      have hm : L[k] ∈ L := List.getElem_mem h
      rw [grps_take_succ L k _ hg]
      rcases nil_or_snoc (grps (L.take k)) with e | ⟨P, g, e⟩
      · rw [e, gstep_nil]; intro x hx; rw [List.mem_singleton.1 hx]; exact hm
      · rw [e] at ih ⊢
        by_cases hn : Nxt g.1 L[k] = true
        · rw [gstep_on P g _ hn]
          intro x hx
          rcases List.mem_append.1 hx with hx | hx
          · exact ih x (List.mem_append.2 (.inl hx))
          · rw [List.mem_singleton.1 hx]; exact hm
        · rw [gstep_new P g _ (by simpa using hn)]
          intro x hx
          rcases List.mem_append.1 hx with hx | hx
          · exact ih x hx
          · rw [List.mem_singleton.1 hx]; exact hm
    · rw [List.take_of_length_le (by omega)]
      rwa [List.take_of_length_le h] at ih

/-- What the groups of the first squares become as more squares follow. -/
theorem grps_ext (L : List Sq) (k : Nat) (P : List (Sq × List Int)) (s : Sq) (l : List Int) (h : grps (L.take (k + 1)) = P ++ [(s, l)]) (j : Nat) (hj : k + 1 ≤ j) :
    ∃ l' rest, glists (grps (L.take j)) = glists P ++ (l ++ l') :: rest := by
  induction j with
  | zero => omega
  | succ j ih =>
    rcases Nat.lt_or_ge k j with hkj | hkj
    · obtain ⟨l', rest, e⟩ := ih (by omega)
      rcases Nat.lt_or_ge j L.length with hl | hl
      · have hg := List.getElem?_eq_getElem hl
        rw [grps_take_succ L j _ hg]
        rcases nil_or_snoc (grps (L.take j)) with e0 | ⟨Q, g, e0⟩
        · rw [e0] at e; simp [glists] at e
        · rw [e0] at e ⊢
          by_cases hn : Nxt g.1 L[j] = true
          · rw [gstep_on Q g _ hn]
            rw [glists_app] at e ⊢
            rcases nil_or_snoc rest with rfl | ⟨r', x, rfl⟩
            · have e1 : glists Q ++ glists [g] = glists P ++ [l ++ l'] := e
              have e2 := List.append_inj_left' e1 (by simp [glists])
              have e3 := List.append_inj_right' e1 (by simp [glists])
              simp [glists] at e3
              exact ⟨l' ++ [L[j].d], [], by rw [e2]; simp [glists, e3]⟩
            · have e1 : glists Q ++ glists [g] = (glists P ++ (l ++ l') :: r') ++ [x] := by rw [e]; simp
              have e2 := List.append_inj_left' e1 (by simp [glists])
              exact ⟨l', r' ++ glists [(L[j], g.2 ++ [L[j].d])], by rw [e2]; simp⟩
          · rw [gstep_new Q g _ (by simpa using hn), glists_app, e]
            exact ⟨l', rest ++ glists [(L[j], [L[j].d])], by simp⟩
      · rw [List.take_of_length_le (by omega)]
        rw [List.take_of_length_le hl] at e
        exact ⟨l', rest, e⟩
    · obtain rfl : j = k := by omega
      rw [h, glists_app]
      exact ⟨[], [], by simp [glists]⟩
theorem gstep_ne (G : List (Sq × List Int)) (h : ∀ g ∈ G, g.2 ≠ []) (s : Sq) : ∀ g ∈ gstep G s, g.2 ≠ [] := by
  rcases nil_or_snoc G with rfl | ⟨P, g, rfl⟩
  · intro g hg; rw [gstep_nil] at hg; rw [List.mem_singleton.1 hg]; simp
  · by_cases hn : Nxt g.1 s = true
    · rw [gstep_on P g s hn]
      intro x hx
      rcases List.mem_append.1 hx with hx | hx
      · exact h x (List.mem_append.2 (.inl hx))
      · rw [List.mem_singleton.1 hx]; simp
    · rw [gstep_new P g s (by simpa using hn)]
      intro x hx
      rcases List.mem_append.1 hx with hx | hx
      · exact h x hx
      · rw [List.mem_singleton.1 hx]; simp
theorem grps_ne (L : List Sq) (k : Nat) : ∀ g ∈ grps (L.take k), g.2 ≠ [] := by
  induction k with
  | zero => intro g hg; simp [grps] at hg
  | succ k ih =>
    rcases Nat.lt_or_ge k L.length with h | h
    · rw [grps_take_succ L k _ (List.getElem?_eq_getElem h)]; exact gstep_ne _ ih _
    · rw [List.take_of_length_le (by omega)]
      rwa [List.take_of_length_le h] at ih
theorem grps_tot (L : List Sq) (k : Nat) (hk : k ≤ L.length) : tot (glists (grps (L.take k))) = k := by
  induction k with
  | zero => simp [grps, glists, tot]
  | succ k ih => rw [grps_take_succ L k _ (List.getElem?_eq_getElem hk), gstep_tot, ih (by omega)]
/-- The group that square k is in. -/
def grpAt (L : List Sq) (k : Nat) : Nat := (grps (L.take (k + 1))).length - 1
theorem grpAt_in (L : List Sq) (k : Nat) (hk : k < L.length) : grpAt L k < (grps L).length ∧ tot ((glists (grps L)).take (grpAt L k)) ≤ k ∧ k < tot ((glists (grps L)).take (grpAt L k + 1)) := by
  obtain ⟨P, l, h⟩ := grps_last L k _ (List.getElem?_eq_getElem hk)
  obtain ⟨l', rest, e⟩ := grps_ext L k P _ l h L.length (by omega)
  rw [List.take_of_length_le (Nat.le_refl _)] at e
  have hm : grpAt L k = P.length := by unfold grpAt; rw [h]; simp
  have ht := grps_tot L (k + 1) hk
  rw [h, glists_app, tot_app] at ht
  have hl : l ≠ [] := grps_ne L (k + 1) (L[k], l) (by rw [h]; simp)
  have hl1 : 1 ≤ l.length := by
    cases l with
    | nil => exact absurd rfl hl
    | cons a r => simp
  simp [glists, tot] at ht
  have hlen : (grps L).length = (glists (grps L)).length := by simp [glists]
  have hP : (glists P).length = P.length := by simp [glists]
  refine ⟨?_, ?_, ?_⟩
  · rw [hm, hlen, e, List.length_append, hP]; simp
  · rw [hm, e, List.take_append_of_le_length (by rw [hP]; exact Nat.le_refl _), List.take_of_length_le (by rw [hP]; exact Nat.le_refl _)]
    simp only [glists]; omega
  · rw [hm, e, ← hP, List.take_append, List.take_of_length_le (Nat.le_succ _), tot_app]
    simp [tot, glists]
    omega
/-- Sums of lengths tell the group. -/
theorem tot_mono (M : List (List Int)) {i j : Nat} (h : i ≤ j) : tot (M.take i) ≤ tot (M.take j) := by
  have e : M.take j = M.take i ++ (M.drop i).take (j - i) := by
    rw [← List.take_append_drop i (M.take j), List.take_take, Nat.min_eq_left h, List.drop_take]
  rw [e, tot_app]; omega
theorem grpAt_of (L : List Sq) (k i : Nat) (hk : k < L.length) (h1 : tot ((glists (grps L)).take i) ≤ k) (h2 : k < tot ((glists (grps L)).take (i + 1))) : i = grpAt L k := by
  obtain ⟨_, a, b⟩ := grpAt_in L k hk
  rcases Nat.lt_trichotomy i (grpAt L k) with h | h | h
  · have := tot_mono (glists (grps L)) (show i + 1 ≤ grpAt L k from h); omega
  · exact h
  · have := tot_mono (glists (grps L)) (show grpAt L k + 1 ≤ i from h); omega

/-- A group as it lies in memory: its last square, and the row of its sides. -/
structure Gp where
  s : Sq
  r : Rw
def gpV (g : Gp) : List Value := [.int .i64 g.s.x, .int .i64 g.s.y, .int .i64 g.s.d, g.r.val]
def flatG : List Gp → List Value
  | [] => []
  | g :: G => gpV g ++ flatG G
theorem flatG_len (G : List Gp) : (flatG G).length = G.length * 4 := by
  induction G with
  | nil => rfl
  | cons g G ih => simp [flatG, gpV, ih]; omega
theorem flatG_app (G H : List Gp) : flatG (G ++ H) = flatG G ++ flatG H := by
  induction G with
  | nil => rfl
  | cons g G ih => simp [flatG, ih]
theorem flatG_one (G : List Gp) : ∀ u ∈ flatG G, u.oneCell' = true := by
  induction G with
  | nil => intro u hu; simp [flatG] at hu
  | cons g G ih =>
    intro u hu
    rcases List.mem_append.1 hu with h | h
    · simp [gpV] at h; rcases h with rfl | rfl | rfl | rfl <;> rfl
    · exact ih u h
theorem flatG_get (P S : List Gp) (g : Gp) (j : Nat) (v : Value) (h : (gpV g)[j]? = some v) : (flatG (P ++ g :: S))[P.length * 4 + j]? = some v := by
  have hj : j < (gpV g).length := (List.getElem?_eq_some_iff.1 h).1
  rw [flatG_app, List.getElem?_append_right (by rw [flatG_len]; omega), flatG_len, Nat.add_sub_cancel_left, flatG, List.getElem?_append_left hj, h]
def asG (G : List Gp) : List (Sq × List Int) := G.map fun g => (g.s, g.r.L)
theorem asG_app (G H : List Gp) : asG (G ++ H) = asG G ++ asG H := by simp [asG]
def rowsG (G : List Gp) : List Rw := G.map (·.r)
theorem rowsG_app (G H : List Gp) : rowsG (G ++ H) = rowsG G ++ rowsG H := by simp [rowsG]
theorem infoG : (Tryz.prog.info? 73).map (fun i => (i.zero, i.size, i.bytes)) = some (some (.agg #[.int .i64 0, .int .i64 0, .int .i64 0, .slice none 0 0]), 4, 48) := by kernel_rfl

structure OwnG (w : World) (base : Nat) (A : Option Addr) (n c : Nat) (G : List Gp) : Prop where
  len : n = G.length
  outer : w.ownsRow base 73 4 (.slice A n c) n (flatG G)
  inner : InRows w base (rowsG G)
  away : Away (.slice A n c) (rowsG G)
theorem OwnG.nil (w : World) (base : Nat) : OwnG w base none 0 0 [] := ⟨rfl, World.ownsRow_nil _ _ _ _, InRows.nil _ _, Away.nil _⟩
section
variable {w w' : World} {base : Nat} {A : Option Addr} {n c : Nat} {G : List Gp}
theorem OwnG.lt (h : OwnG w base A n c G) {k : Nat} (hk : Blk A n c (rowsG G) k) : base ≤ k ∧ k < w.heap.size := by
  rcases hk with hk | ⟨r, hr, hk⟩
  · exact h.outer.lt k hk
  · exact h.inner.lt hr hk
theorem OwnG.keep (h : OwnG w base A n c G) (hb : Below w.heap.size w w') : OwnG w' base A n c G :=
  ⟨h.len, own_blk h.outer fun k e => hb.block k (h.outer.lt k e).2, h.inner.blk fun _ hr k e => hb.block k (h.inner.lt hr e).2, h.away⟩
theorem OwnG.push (h : OwnG w base A n c G) (g : Gp) (ho : w.ownsRow base 3 1 g.r.val g.r.L.length (ints g.r.L))
    (hn : ∀ k, g.r.val.ownBlock = some k → ¬ Blk A n c (rowsG G) k) {v' : Value} (hout : w'.ownsRow base 73 4 v' (n + 1) (flatG G ++ gpV g)) (hg : w.grownBy w' (Value.slice A n c).ownBlock)
    (hv : v'.ownBlock = (Value.slice A n c).ownBlock ∨ v'.ownBlock = some w.heap.size) : ∃ A' c', v' = .slice A' (n + 1) c' ∧ OwnG w' base A' (n + 1) c' (G ++ [g]) := by
  obtain ⟨A', c', rfl⟩ := own_val hout
  have ho' : w'.ownsRow base 3 1 g.r.val g.r.L.length (ints g.r.L) := own_blk ho fun k hk => hg.block k (ho.lt k hk).2 (fun e => hn k hk (.inl e.symm))
  have hin := h.inner.grown h.away hg
  refine ⟨A', c', rfl, by simp [h.len], by rw [flatG_app]; simpa [flatG] using hout, by rw [rowsG_app]; exact hin.snoc ho' (fun k hk s hs e => hn k hk (.inr ⟨s, hs, e⟩)), ?_⟩
  rw [rowsG_app]
  refine (h.away.other h.inner (v' := .slice A' (n + 1) c') ?_).snoc ?_
  · rcases hv with e | e
    · exact .inl e
    · exact .inr ⟨_, e, Nat.le_refl _⟩
  · intro k hk e
    rcases hv with e' | e'
    · rw [e'] at e; exact hn k hk (.inl e)
    · rw [e'] at e; cases e; exact Nat.lt_irrefl _ (ho.lt _ hk).2
end

/-- The rows behind a change of the last one alone. -/
theorem InRows.redo {w w2 : World} {base : Nat} {P : List Rw} {r r' : Rw} {v : Value} (h : InRows w base (P ++ [r])) (ha : Away v (P ++ [r])) (hk : ∀ k, k < w.heap.size → r.val.ownBlock ≠ some k → v.ownBlock ≠ some k → w2.heap[k]? = w.heap[k]?)
    (ho : w2.ownsRow base 3 1 r'.val r'.L.length (ints r'.L)) (hv : r'.val.ownBlock = r.val.ownBlock ∨ ∃ k, r'.val.ownBlock = some k ∧ w.heap.size ≤ k) (hlt : ∀ k, v.ownBlock = some k → k < w.heap.size) :
    InRows w2 base (P ++ [r']) ∧ Away v (P ++ [r']) := by
  have hap := List.pairwise_append.1 h.apart
  refine ⟨⟨fun s hs => ?_, ?_⟩, fun s hs k hks => ?_⟩
  · rcases List.mem_append.1 hs with hs | hs
    · have hin : s ∈ P ++ [r] := List.mem_append.2 (.inl hs)
      exact own_blk (h.own s hin) fun k hks => hk k (h.lt hin hks).2 (hap.2.2 s hs r (by simp) k hks) (ha s hin k hks)
    · rw [List.mem_singleton.1 hs]; exact ho
  · rw [List.pairwise_append]
    refine ⟨hap.1, List.pairwise_singleton _ _, fun s hs t ht k hks e => ?_⟩
    rw [List.mem_singleton.1 ht] at e
    rcases hv with e' | ⟨k', e', hk'⟩
    · exact hap.2.2 s hs r (by simp) k hks (by rw [← e']; exact e)
    · rw [e'] at e; cases e
      have := (h.lt (List.mem_append.2 (.inl hs) : s ∈ P ++ [r]) hks).2
      omega
  · rcases List.mem_append.1 hs with hs | hs
    · exact ha s (List.mem_append.2 (.inl hs)) k hks
    · rw [List.mem_singleton.1 hs] at hks
      rcases hv with e' | ⟨k', e', hk'⟩
      · exact ha r (by simp) k (by rw [← e']; exact hks)
      · rw [e'] at hks; cases hks
        intro e
        have := hlt _ e
        omega

theorem set4 (X : List Value) (a b c d a' b' c' d' : Value) : ((((X ++ [a, b, c, d]).set X.length a').set (X.length + 1) b').set (X.length + 2) c').set (X.length + 3) d' = X ++ [a', b', c', d'] := by
  induction X with
  | nil => rfl
  | cons x X ih =>
    simp only [List.cons_append, List.length_cons, List.set_cons_succ, Nat.succ_add, Nat.add_right_comm _ 1 _]
    simp
theorem OwnG.redo {w w1 w2 : World} {base g0 n c : Nat} {Q : List Gp} {g : Gp} {s : Sq} {r' : Rw} (h : OwnG w base (some ⟨g0, 0, none⟩) n c (Q ++ [g])) (hb : Below w.heap.size w w1) (hg : w1.grownBy w2 g.r.val.ownBlock)
    (ho : w2.ownsRow base 3 1 r'.val r'.L.length (ints r'.L)) (hv : r'.val.ownBlock = g.r.val.ownBlock ∨ r'.val.ownBlock = some w1.heap.size) :
    OwnG ((((w2.setCell ⟨g0, Q.length * 4, none⟩ (.int .i64 s.x)).setCell ⟨g0, Q.length * 4 + 1, none⟩ (.int .i64 s.y)).setCell ⟨g0, Q.length * 4 + 2, none⟩ (.int .i64 s.d)).setCell ⟨g0, Q.length * 4 + 3, none⟩ r'.val) base (some ⟨g0, 0, none⟩) n c (Q ++ [⟨s, r'⟩]) := by
  have hin := h.inner
  have haw := h.away
  rw [rowsG_app] at hin haw
  have hgr : ∀ k, g.r.val.ownBlock = some k → k ≠ g0 := fun k hk e => haw g.r (by simp [rowsG]) k hk (by rw [e]; rfl)
  have hgl : g0 < w.heap.size := (own_lt h.outer).2
  have hr' : r'.val.ownBlock ≠ some g0 := by
    intro e
    rcases hv with e' | e'
    · exact hgr g0 (by rw [← e', e]) rfl
    · rw [e'] at e; cases e; have := hb.size; omega
  have hout2 : w2.ownsRow base 73 4 (.slice (some ⟨g0, 0, none⟩) n c) n (flatG (Q ++ [g])) := own_blk h.outer fun k hk => by
    simp [Value.ownBlock] at hk
    subst hk
    exact (hg.block _ (Nat.lt_of_lt_of_le hgl hb.size) (fun e => hgr _ e.symm rfl)).trans (hb.block _ hgl)
  have R := ((((hout2.stored (Q.length * 4) (.int .i64 s.x)).1.stored (Q.length * 4 + 1) (.int .i64 s.y)).1.stored (Q.length * 4 + 2) (.int .i64 s.d)).1.stored (Q.length * 4 + 3) r'.val).1
  have e1 : flatG (Q ++ [g]) = flatG Q ++ gpV g := by rw [flatG_app]; simp [flatG]
  have e2 : flatG (Q ++ [⟨s, r'⟩]) = flatG Q ++ gpV ⟨s, r'⟩ := by rw [flatG_app]; simp [flatG]
  rw [e1] at R
  have e3 := set4 (flatG Q) (.int .i64 g.s.x) (.int .i64 g.s.y) (.int .i64 g.s.d) g.r.val (.int .i64 s.x) (.int .i64 s.y) (.int .i64 s.d) r'.val
  rw [flatG_len] at e3
  have R2 := R
  rw [show gpV g = [.int .i64 g.s.x, .int .i64 g.s.y, .int .i64 g.s.d, g.r.val] from rfl, e3] at R2
  have hfin := InRows.redo (w2 := ((((w2.setCell ⟨g0, Q.length * 4, none⟩ (.int .i64 s.x)).setCell ⟨g0, Q.length * 4 + 1, none⟩ (.int .i64 s.y)).setCell ⟨g0, Q.length * 4 + 2, none⟩ (.int .i64 s.d)).setCell ⟨g0, Q.length * 4 + 3, none⟩ r'.val)) (r' := r') (v := .slice (some ⟨g0, 0, none⟩) n c) hin haw
    (fun k hk h1 h2 => by
      have hne : k ≠ g0 := fun e => h2 (by rw [e]; rfl)
      rw [Below.heap_setCell _ _ _ k hne, Below.heap_setCell _ _ _ k hne, Below.heap_setCell _ _ _ k hne, Below.heap_setCell _ _ _ k hne, hg.block k (Nat.lt_of_lt_of_le hk hb.size) (fun e => h1 e.symm), hb.block k hk])
    (ownsRow_setCell_other (ownsRow_setCell_other (ownsRow_setCell_other (ownsRow_setCell_other ho (a := ⟨g0, _, none⟩) hr' _) (a := ⟨g0, _, none⟩) hr' _) (a := ⟨g0, _, none⟩) hr' _) (a := ⟨g0, _, none⟩) hr' _)
    (by rcases hv with e | e
        · exact .inl e
        · exact .inr ⟨_, e, hb.size⟩)
    (fun k hk => by simp [Value.ownBlock] at hk; omega)
  refine ⟨by have := h.len; simpa using this, by rw [e2]; exact R2, ?_, ?_⟩
  · rw [rowsG_app]; exact hfin.1
  · rw [rowsG_app]; exact hfin.2
theorem OwnG.again {w w1 w2 : World} {base g0 n c m : Nat} {Q : List Gp} {g : Gp} {s : Sq} {A6 : Option Addr} {c6 : Nat} (h : OwnG w base (some ⟨g0, 0, none⟩) n c (Q ++ [g])) (hb : Below w.heap.size w w1) (hg : w1.grownBy w2 (Value.slice g.r.A g.r.L.length g.r.c).ownBlock)
    (ho : w2.ownsRow base 3 1 (.slice A6 (g.r.L.length + 1) c6) (g.r.L.length + 1) (ints g.r.L ++ [.int .i64 s.d])) (hv : (Value.slice A6 (g.r.L.length + 1) c6).ownBlock = (Value.slice g.r.A g.r.L.length g.r.c).ownBlock ∨ (Value.slice A6 (g.r.L.length + 1) c6).ownBlock = some w1.heap.size) (hm : m = Q.length) :
    OwnG ((((w2.setCell ⟨g0, m * 4, none⟩ (.int .i64 s.x)).setCell ⟨g0, m * 4 + 1, none⟩ (.int .i64 s.y)).setCell ⟨g0, m * 4 + 2, none⟩ (.int .i64 s.d)).setCell ⟨g0, m * 4 + 3, none⟩ (.slice A6 (g.r.L.length + 1) c6)) base (some ⟨g0, 0, none⟩) n c (Q ++ [⟨s, ⟨A6, c6, g.r.L ++ [s.d]⟩⟩]) := by
  subst hm
  have e : (Rw.mk A6 c6 (g.r.L ++ [s.d])).val = .slice A6 (g.r.L.length + 1) c6 := by simp [Rw.val]
  have := h.redo (s := s) (r' := ⟨A6, c6, g.r.L ++ [s.d]⟩) hb hg (by rw [e, ints_app, List.length_append]; exact ho) (by rw [e]; exact hv)
  rwa [e] at this
theorem set_last (X : List Value) (a b : Value) : (X ++ [a]).set X.length b = X ++ [b] := by
  induction X with
  | nil => rfl
  | cons x X ih => simp
theorem OwnSS.redo {w w1 w2 : World} {base g0 n c : Nat} {P : List Rw} {r r' : Rw} (h : OwnSS w base (some ⟨g0, 0, none⟩) n c (P ++ [r])) (hb : Below w.heap.size w w1) (hg : w1.grownBy w2 r.val.ownBlock)
    (ho : w2.ownsRow base 3 1 r'.val r'.L.length (ints r'.L)) (hv : r'.val.ownBlock = r.val.ownBlock ∨ r'.val.ownBlock = some w1.heap.size) :
    OwnSS (w2.setCell ⟨g0, P.length, none⟩ r'.val) base (some ⟨g0, 0, none⟩) n c (P ++ [r']) := by
  have hin := h.inner
  have haw := h.away
  have hgr : ∀ k, r.val.ownBlock = some k → k ≠ g0 := fun k hk e => haw r (by simp) k hk (by rw [e]; rfl)
  have hgl : g0 < w.heap.size := (own_lt h.outer).2
  have hr' : r'.val.ownBlock ≠ some g0 := by
    intro e
    rcases hv with e' | e'
    · exact hgr g0 (by rw [← e', e]) rfl
    · rw [e'] at e; cases e; have := hb.size; omega
  have hout2 : w2.ownsRow base 32 1 (.slice (some ⟨g0, 0, none⟩) n c) n (vals (P ++ [r])) := own_blk h.outer fun k hk => by
    simp [Value.ownBlock] at hk
    subst hk
    exact (hg.block _ (Nat.lt_of_lt_of_le hgl hb.size) (fun e => hgr _ e.symm rfl)).trans (hb.block _ hgl)
  have R := (hout2.stored P.length r'.val).1
  have e3 : (vals (P ++ [r])).set P.length r'.val = vals (P ++ [r']) := by
    have e := set_last (vals P) r.val r'.val
    rw [vals_len] at e
    rw [vals_app, vals_app]
    exact e
  rw [e3] at R
  have hfin := InRows.redo (w2 := w2.setCell ⟨g0, P.length, none⟩ r'.val) (r' := r') (v := .slice (some ⟨g0, 0, none⟩) n c) hin haw
    (fun k hk h1 h2 => by
      have hne : k ≠ g0 := fun e => h2 (by rw [e]; rfl)
      rw [Below.heap_setCell _ _ _ k hne, hg.block k (Nat.lt_of_lt_of_le hk hb.size) (fun e => h1 e.symm), hb.block k hk])
    (ownsRow_setCell_other ho (a := ⟨g0, _, none⟩) hr' _)
    (by rcases hv with e | e
        · exact .inl e
        · exact .inr ⟨_, e, hb.size⟩)
    (fun k hk => by simp [Value.ownBlock] at hk; omega)
  exact ⟨by have := h.len; simpa using this, R, hfin.1, hfin.2⟩
theorem rows_asG (G : List Gp) : lists (rowsG G) = glists (asG G) := by simp [lists, rowsG, glists, asG]
end Go.Proofs.YtfkifcjjkaenhaaGreatDoor
