/- A wire put into a net: the program's and the model's. -/
import Derived.Test.YtfhbbidbbomagaaNetR
import Derived.Test.YtfhbbidbbomagaaApp
import Derived.Lib.SlicesCompact
namespace Go.Proofs.Ytfhbbidbbomagaa
open Go.RowKit

theorem flatW_one (L : List Wi) : ∀ u ∈ flatW L, u.oneCell' = true := by
  induction L with
  | nil => intro u hu; simp [flatW] at hu
  | cons s r ih =>
    intro u hu
    simp only [flatW, List.mem_cons] at hu
    rcases hu with rfl | rfl | hu
    · rfl
    · rfl
    · exact ih u hu
theorem src_wis {w : World} {B : Nat} {A : Option Addr} {n c : Nat} {L : List Wi} (hl : L.length = n) (hn : 1 ≤ n) (hL : WisAt w B A L) : Src w A n c (flatW L) := by
  obtain ⟨s, hs⟩ : ∃ s, L[0]? = some s := ⟨_, List.getElem?_eq_getElem (by omega)⟩
  obtain ⟨b, off, rfl, _⟩ := hL 0 s hs
  refine .inr ⟨_, rfl, fun j u hu => ?_⟩
  have hj : j < L.length * 2 := by have := (List.getElem?_eq_some_iff.1 hu).1; rwa [flatW_len] at this
  obtain ⟨s, hs⟩ : ∃ s, L[j / 2]? = some s := ⟨_, List.getElem?_eq_getElem (by omega)⟩
  obtain ⟨b', off', e, _, c0, c1⟩ := hL _ s hs
  simp only [Option.some.injEq, Addr.mk.injEq] at e
  obtain ⟨rfl, rfl, _⟩ := e
  have f := flatW_get L _ s hs
  rw [add_at]
  rcases (by omega : j = j / 2 * 2 ∨ j = j / 2 * 2 + 1) with e | e
  · rw [e] at hu ⊢
    rw [f.1] at hu
    rw [← hu]; exact c0
  · rw [e] at hu ⊢
    rw [f.2] at hu
    rw [← hu, ← Nat.add_assoc]; exact c1
theorem src_later {w w' : World} {A : Option Addr} {n c B : Nat} {L : List Wi} (h : WisAt w B A L) (hb : Below B w w') : WisAt w' B A L := h.below hb
theorem app_roomW {n m : Nat} (h : n ≤ 30) (k : m ≤ 30) : n + m ≤ maxLen ∧ (n + m) * 16 ≤ 140737488355328 := ⟨by unfold maxLen; omega, by omega⟩
set_option maxHeartbeats 1000000 in
theorem cloneW_any (A : Option Addr) (n c : Nat) (L : List Wi) (w : World) (hl : L.length = n) (hn : 1 ≤ n ∧ n ≤ 30) (hL : WisAt w w.heap.size A L) :
    Calls Try.prog 53 #[.slice A n c] w fun e w' => ∃ A' c', e = .returned (.slice A' n c') ∧ w'.ownsRow w.heap.size 70 2 (.slice A' n c') n (flatW L) ∧ Below w.heap.size w w' := by
  have q : ∀ (w : World) (a : Option Addr) (n c n' c' : Nat), (binOp .eql 26 (.slice a n c) (.slice none n' c')).run Try.prog w = .ok (.bool a.isNone) w := fun w a n c n' c' => Lib.run_eql_slice_nil w _ _ a n c n' c' Try.underlying26
  have hsrc : ∀ o, Src (w.alloc o) A n c (flatW L) := fun o => src_wis hl hn.1 (hL.below ((Below.refl _ _).alloc (Nat.le_refl _) o))
  obtain ⟨ad, rfl⟩ : ∃ ad, A = some ad := by
    rcases hsrc (.cells #[] 70) with ⟨_, h, _⟩ | ⟨ad, h, _⟩
    · omega
    · exact ⟨ad, h⟩
  obtain ⟨i0, hi, hz0, hz1, hz2⟩ := info_parts infoWi
  have HFL : Hid ((flatW L).length = n * 2) := Lib.hid (by rw [flatW_len, hl])
  have HR := Lib.hid hsrc
  have hroom := app_roomW (Nat.zero_le 30) hn.2
  clear hsrc hL hl
  go_enter Try.func53, Try.ntmps53
  go_wp2_with (at_builtin; refine app_list rfl _ _ _ rfl w.heap.size 70 i0 (.agg #[.int .i64 0, .int .i64 0]) 2 16 Try.underlying26 hi hz0 hz1 hz2 rfl (by decide) (.slice (some ⟨w.heap.size, 0, none⟩) 0 0) 0 [] rfl (World.ownsRow_lit w #[] 0 (Nat.le_refl _) (Nat.zero_le _) rfl) (some ad) n c (flatW L) rfl HFL.out (HR.out _) (flatW_one _) hroom.1 hroom.2 (by simp) ?_; intro v' w1 hown hgr _; have hb : Below w.heap.size w w1 := ((Below.refl _ w).alloc (Nat.le_refl _) _).grown hgr (by simp) (fun kk hkk => by simp [Value.ownBlock] at hkk; omega))
  go_ret
  simp only [Nat.zero_add, List.nil_append] at hown
  obtain ⟨A', c', rfl⟩ := own_val hown
  exact ⟨A', c', rfl, hown, hb⟩

def RetOr (w : World) (N : Int) (A : Option Addr) (n c : Nat) (p : Prop) (e : Ending) (w' : World) : Prop :=
  (p → e = .returned (.tuple #[.agg #[.int .i64 N, .slice A n c], .bool true])) ∧ (¬ p → e = .returned (.tuple #[.agg #[.int .i64 0, .slice none 0 0], .bool false])) ∧ Below w.heap.size w w'
set_option maxRecDepth 100000 in
set_option maxHeartbeats 1000000 in
theorem netOrNone_any (N : Int) (A : Option Addr) (n c : Nat) (L : List Wi) (w : World) (hl : L.length = n) (hn9 : n ≤ 9223372036854775807) (hL : WisAt w w.heap.size A L) (hN : wfI N) :
    Calls Try.prog 51 #[.agg #[.int .i64 N, .slice A n c]] w (RetOr w N A n c (NetG N L)) := by
  subst hl
  obtain ⟨W1, hW1⟩ : ∃ W1, W1 = (w.alloc (.cells #[.int .i64 N, .slice A L.length c] 28)).alloc (.cells #[.int .i64 0, .slice none 0 0] 28) := ⟨_, rfl⟩
  have Z1 : NR w.heap.size w W1 N A L.length c := by rw [hW1]; exact NR.start w N A L.length c
  have hL1 := hL.below Z1.bel
  by_cases hG : NetG N L
  · go_enter Try.func51, Try.ntmps51
    go_wp2_with fail
    rw [← hW1]
    clear hW1
    refine (callB_yes (isNet_any N A _ c L _ rfl (hL1.mono Z1.bel.size) hN hn9) hG).mono ?_
    rintro e w2 ⟨rfl, hb2⟩
    have Z2 := Z1.keep hb2
    obtain ⟨hz, n0, n1⟩ := id Z2.box
    obtain ⟨_, r0, r1⟩ := id Z2.res
    have t0 := Z2.fz 0
    have t1 := Z2.fz 1
    have hB2 := Z2.bel
    clear Z1 hL1
    go_wp2_with fail
    refine bodyPost_ret (v := .tuple #[.agg #[.int .i64 N, .slice A L.length c], .bool true]) (by simp [results, Try.results51, go_sem, r0, r1]) rfl ?_
    exact ⟨fun _ => rfl, fun h => absurd hG h, (hB2.setCell (p := ⟨w.heap.size + 1, 0, none⟩) (Nat.le_succ _) _).setCell (p := ⟨w.heap.size + 1, 1, none⟩) (Nat.le_succ _) _⟩
  · go_enter Try.func51, Try.ntmps51
    go_wp2_with fail
    rw [← hW1]
    clear hW1
    refine (callB_no (isNet_any N A _ c L _ rfl (hL1.mono Z1.bel.size) hN hn9) hG).mono ?_
    rintro e w2 ⟨rfl, hb2⟩
    have Z2 := Z1.keep hb2
    obtain ⟨_, r0, r1⟩ := id Z2.res
    have t0 := Z2.fz 0
    have t1 := Z2.fz 1
    have hB2 := Z2.bel
    clear Z1 hL1
    go_wp2_with fail
    refine bodyPost_ret (v := .tuple #[.agg #[.int .i64 0, .slice none 0 0], .bool false]) (by simp [results, Try.results51, go_sem, r0, r1]) rfl ?_
    exact ⟨fun h => absurd h hG, fun _ => rfl, (hB2.setCell (p := ⟨w.heap.size + 1, 0, none⟩) (Nat.le_succ _) _).setCell (p := ⟨w.heap.size + 1, 1, none⟩) (Nat.le_succ _) _⟩

/-- What a walk over the making of a net may lean on: what lies below its result's box, and that this box is there. -/
structure PA (B : Nat) (w2 w' : World) : Prop where
  bel : Below (B + 2) w2 w'
  sz : w2.heap.size ≤ w'.heap.size
  c0 : ∃ v, w'.cell? ⟨B + 2, 0, none⟩ = some v
  c1 : ∃ v, w'.cell? ⟨B + 2, 1, none⟩ = some v
  fz : ∀ o, w'.frozen? ⟨B + 2, o, none⟩ = false
  lt : B + 2 < w2.heap.size
theorem PA.drew {B : Nat} {w2 w' : World} (h : PA B w2 w') : PA B w2 w'.drew := ⟨h.bel.drew, h.sz, h.c0, h.c1, h.fz, h.lt⟩
theorem PA.below {B : Nat} {w2 wp w' : World} (h : PA B w2 wp) (hb : Below wp.heap.size wp w') : PA B w2 w' := by
  have hl := Nat.lt_of_lt_of_le h.lt h.sz
  obtain ⟨v0, h0⟩ := h.c0
  obtain ⟨v1, h1⟩ := h.c1
  exact ⟨h.bel.trans (hb.mono (Nat.le_of_lt hl)), Nat.le_trans h.sz hb.size, ⟨v0, (hb.cell (p := ⟨B + 2, 0, none⟩) hl).trans h0⟩, ⟨v1, (hb.cell (p := ⟨B + 2, 1, none⟩) hl).trans h1⟩, fun o => (hb.frozen (p := ⟨B + 2, o, none⟩) hl).trans (h.fz o), h.lt⟩
theorem PA.alloc {B : Nat} {w2 wp : World} (h : PA B w2 wp) (o : Obj) : PA B w2 (wp.alloc o) := h.below ((Below.refl _ _).alloc (Nat.le_refl _) o)
theorem PA.grown {B : Nat} {w2 wp w' : World} {row : Option Nat} (h : PA B w2 wp) (hg : wp.grownBy w' row) (hr : ∀ k, row = some k → w2.heap.size ≤ k) : PA B w2 w' := by
  have hl := Nat.lt_of_lt_of_le h.lt h.sz
  have hn : row ≠ some (B + 2) := fun e => by have := hr _ e; have := h.lt; omega
  obtain ⟨v0, h0⟩ := h.c0
  obtain ⟨v1, h1⟩ := h.c1
  exact ⟨h.bel.grown hg (Nat.le_of_lt hl) (fun k hk => by have := hr k hk; have := h.lt; omega), Nat.le_trans h.sz hg.size, ⟨v0, hg.cell h0 (fun e => hn e.symm)⟩, ⟨v1, hg.cell h1 (fun e => hn e.symm)⟩, fun o => (hg.frozen_far ⟨B + 2, o, none⟩ hl (fun e => hn e.symm)).trans (h.fz o), h.lt⟩
theorem PA.put {B : Nat} {w2 wp : World} (h : PA B w2 wp) (k : Nat) (v : Value) : PA B w2 (wp.setCell ⟨B + 2, k, none⟩ v) := by
  have hp := put_grown wp ⟨B + 2, k, none⟩ v
  obtain ⟨v0, h0⟩ := h.c0
  obtain ⟨v1, h1⟩ := h.c1
  refine ⟨h.bel.setCell (p := ⟨B + 2, k, none⟩) (Nat.le_refl _) v, Nat.le_trans h.sz hp.size, ?_, ?_, fun o => ?_, h.lt⟩
  · by_cases e : k = 0
    · subst e; exact ⟨v, by simp [go_sem, h0]⟩
    · exact ⟨v0, by simp [go_sem, h0, e]⟩
  · by_cases e : k = 1
    · subst e; exact ⟨v, by simp [go_sem, h1]⟩
    · exact ⟨v1, by simp [go_sem, h1, e]⟩
  · rw [show (wp.setCell ⟨B + 2, k, none⟩ v).frozen? ⟨B + 2, o, none⟩ = wp.frozen? ⟨B + 2, o, none⟩ by simp [go_sem]]
    exact h.fz o
theorem new2b {w w3 : World} {a b : Value} {t : TypeId} (hb : Below (w.alloc (.cells #[a, b] t)).heap.size (w.alloc (.cells #[a, b] t)) w3) : ∀ j u, [a, b][j]? = some u → w3.cell? ((⟨w.heap.size, 0, none⟩ : Addr).add j) = some u := fun j u hj => by
  have h := new2 w a b t j u hj
  rw [← h]
  rw [add_at]
  exact hb.cell (p := ⟨w.heap.size, 0 + j, none⟩) (by simp)
theorem new2c {w w3 : World} {a b : Value} {t : TypeId} (hb : Below (w.alloc (.cells #[a, b] t)).drew.heap.size (w.alloc (.cells #[a, b] t)).drew w3) : ∀ j u, [a, b][j]? = some u → w3.cell? ((⟨w.heap.size, 0, none⟩ : Addr).add j) = some u := fun j u hj => by
  have h := new2 w a b t j u hj
  rw [← h]
  rw [add_at]
  exact hb.cell (p := ⟨w.heap.size, 0 + j, none⟩) (by simp)
/-- The memory of a function of a net and a wire. -/
structure AR (B : Nat) (w0 wr : World) (N : Int) (A : Option Addr) (n c : Nat) (x y : Int) : Prop where
  bel : Below B w0 wr
  box : Nx B wr N A n c
  v0 : wr.cell? ⟨B + 1, 0, none⟩ = some (.int .i64 x)
  v1 : wr.cell? ⟨B + 1, 1, none⟩ = some (.int .i64 y)
  res : Nx (B + 2) wr 0 none 0 0
  fz : ∀ o, wr.frozen? ⟨B + 2, o, none⟩ = false
theorem AR.start (w : World) (N : Int) (A : Option Addr) (n c : Nat) (x y : Int) : AR w.heap.size w (((w.alloc (.cells #[.int .i64 N, .slice A n c] 28)).alloc (.cells #[.int .i64 x, .int .i64 y] 70)).alloc (.cells #[.int .i64 0, .slice none 0 0] 28)) N A n c x y := by
  have b1 : ∀ (w : World) (o : Obj), Below w.heap.size w (w.alloc o) := fun w o => (Below.refl _ _).alloc (Nat.le_refl _) o
  refine ⟨(((Below.refl _ _).alloc (Nat.le_refl _) _).alloc (by simp) _).alloc (by simp; omega) _, ((Nx.start w N A n c _).next (b1 _ _)).next (b1 _ _), ?_, ?_, ?_, fun o => World.frozen?_alloc_at _ _ _ _ (by simp)⟩
  · refine ((b1 _ _).cell (p := ⟨w.heap.size + 1, 0, none⟩) (by simp)).trans ?_
    simp
  · refine ((b1 _ _).cell (p := ⟨w.heap.size + 1, 1, none⟩) (by simp)).trans ?_
    simp
  · have := Nx.start ((w.alloc (.cells #[.int .i64 N, .slice A n c] 28)).alloc (.cells #[.int .i64 x, .int .i64 y] 70)) 0 none 0 0 28
    simpa using this
theorem AR.keep {B : Nat} {w0 wr w' : World} {N : Int} {A : Option Addr} {n c : Nat} {x y : Int} (h : AR B w0 wr N A n c x y) (hb : Below wr.heap.size wr w') : AR B w0 w' N A n c x y :=
  ⟨h.bel.trans (hb.mono (Nat.le_of_lt h.box.lt)), h.box.next hb, (hb.cell (p := ⟨B + 1, 0, none⟩) (Nat.lt_of_succ_lt h.res.lt)).trans h.v0, (hb.cell (p := ⟨B + 1, 1, none⟩) (Nat.lt_of_succ_lt h.res.lt)).trans h.v1, h.res.next hb, fun o => (hb.frozen (p := ⟨B + 2, o, none⟩) h.res.lt).trans (h.fz o)⟩
theorem AR.pa {B : Nat} {w0 wr : World} {N : Int} {A : Option Addr} {n c : Nat} {x y : Int} (h : AR B w0 wr N A n c x y) : PA B wr wr := ⟨Below.refl _ _, Nat.le_refl _, ⟨_, h.res.c0⟩, ⟨_, h.res.c1⟩, h.fz, h.res.lt⟩
def AddOk (N : Int) (L : List Wi) (s : Wi) : Prop := NetG N L ∧ NetG N (L ++ [s])
noncomputable def addX (N : Int) (L : List Wi) (s : Wi) : Int := if dc (AddOk N L s) then N else 0
noncomputable def addL (N : Int) (L : List Wi) (s : Wi) : List Wi := if dc (AddOk N L s) then L ++ [s] else []
theorem addX_yes {N : Int} {L : List Wi} {s : Wi} (h : AddOk N L s) : addX N L s = N := by simp [addX, dc_true h]
theorem addX_no {N : Int} {L : List Wi} {s : Wi} (h : ¬ AddOk N L s) : addX N L s = 0 := by simp [addX, dc_false h]
theorem addL_yes {N : Int} {L : List Wi} {s : Wi} (h : AddOk N L s) : addL N L s = L ++ [s] := by simp [addL, dc_true h]
theorem addL_no {N : Int} {L : List Wi} {s : Wi} (h : ¬ AddOk N L s) : addL N L s = [] := by simp [addL, dc_false h]

end Go.Proofs.Ytfhbbidbbomagaa
