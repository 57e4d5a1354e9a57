/- Lk, Lw, Ctl, CtlA: texts in one. -/
import Derived.Test.YtdpbjmdgjhleeaaCta
import Derived.Test.YtdpbjmdgjhleeaaCw
import Derived.Test.YtdpbjmdgjhleeaaCvd
import Derived.Test.YtdpbjmdgjhleeaaSrtT
import Derived.Test.YtdpbjmdgjhleeaaLast
import Derived.Deep.RegionLaw
import Derived.Test.YtdpbjmdgjhleeaaFirstD
set_option linter.all false
namespace Go.Proofs.Ytdpbjmdgjhleeaa
open Go.RowKit

/-- A cut as a list of cuts holds it. -/
def cutV (W H : Int) (x : CV) : List Value := [.int .i64 W, .int .i64 H, .slice x.2.1 x.1.length x.2.2]
def cutsV (W H : Int) (Cs : List CV) : List Value := Cs.flatMap (cutV W H)
theorem cutsV_len (W H : Int) (Cs : List CV) : (cutsV W H Cs).length = Cs.length * 3 := by
  induction Cs with
  | nil => rfl
  | cons x r ih => simp only [cutsV, List.flatMap_cons, List.length_append] at ih ⊢; rw [ih]; simp [cutV]; omega
theorem cutsV_app (W H : Int) (Cs Ds : List CV) : cutsV W H (Cs ++ Ds) = cutsV W H Cs ++ cutsV W H Ds := by simp [cutsV]
def ownC (x : CV) : Option Nat := (Value.slice x.2.1 x.1.length x.2.2).ownBlock
/-- Blocks below n but Bo and ob lie as they lay. -/
structure KB (Bo : Nat) (ob : Option Nat) (n : Nat) (A C : World) : Prop where
  os : C.os = A.os
  tape : C.tape = A.tape
  output : C.output = A.output
  size : A.heap.size ≤ C.heap.size
  block : ∀ k, k < n → k ≠ Bo → some k ≠ ob → C.heap[k]? = A.heap[k]?
theorem KB.refl (Bo : Nat) (ob : Option Nat) (n : Nat) (A : World) : KB Bo ob n A A := ⟨rfl, rfl, rfl, Nat.le_refl _, fun _ _ _ _ => rfl⟩
theorem KB.trans {Bo n m : Nat} {ob ob' : Option Nat} {A B C : World} (h : KB Bo ob n A B) (k : KB Bo ob' m B C) (hm : n ≤ m) (ho : ∀ b, ob' = some b → ob = some b ∨ n ≤ b) : KB Bo ob n A C :=
  ⟨k.os.trans h.os, k.tape.trans h.tape, k.output.trans h.output, Nat.le_trans h.size k.size, fun i hi h1 h2 => (k.block i (by omega) h1 (fun e => by
    rcases ho i e.symm with h3 | h3
    · exact h2 h3.symm
    · omega)).trans (h.block i hi h1 h2)⟩
theorem KB.of_below {Bo n : Nat} {ob : Option Nat} {A C : World} (h : Below n A C) : KB Bo ob n A C := ⟨h.os, h.tape, h.output, h.size, fun k hk _ _ => h.block k hk⟩
/-- The list of the cuts found so far. -/
structure OUT (n0 Bo : Nat) (W H : Int) (Cs : List CV) (sl : Value) (w0 w : World) : Prop where
  c : w.cell? ⟨Bo, 0, none⟩ = some sl
  f : w.frozen? ⟨Bo, 0, none⟩ = false
  nb : n0 ≤ Bo
  own : w.ownsRow n0 28 3 sl Cs.length (cutsV W H Cs)
  no : sl.ownBlock ≠ some Bo
  sq : ∀ x ∈ Cs, w.ownsRow n0 85 3 (.slice x.2.1 x.1.length x.2.2) x.1.length (flat x.1)
  nx : ∀ x ∈ Cs, ∀ b, ownC x = some b → b ≠ Bo ∧ some b ≠ sl.ownBlock
  ds : Cs.Pairwise fun x y => ∀ b, ownC x = some b → ownC y ≠ some b
  b : Below n0 w0 w
theorem OUT.keep {n0 Bo : Nat} {W H : Int} {Cs : List CV} {sl : Value} {w0 w w' : World} (h : OUT n0 Bo W H Cs sl w0 w) (hb : Below w.heap.size w w') (hn : n0 ≤ w.heap.size) : OUT n0 Bo W H Cs sl w0 w' := by
  have hB := World.block_lt_of_cell? _ _ h.c
  exact ⟨(hb.cell (p := ⟨Bo, 0, none⟩) hB).trans h.c, (hb.frozen (p := ⟨Bo, 0, none⟩) hB).trans h.f, h.nb, own_keep h.own hb, h.no, fun x hx => own_keep (h.sq x hx) hb, h.nx, h.ds, h.b.trans (hb.mono hn)⟩
/-- One cut more, its squares in memory of their own. -/
theorem OUT.push {n0 Bo : Nat} {W H : Int} {Cs : List CV} {sl v' : Value} {w0 w wt w6 : World} {x : CV} (h : OUT n0 Bo W H Cs sl w0 w) (hn : n0 ≤ w.heap.size) (hb : Below w.heap.size w wt)
    (hx : wt.ownsRow w.heap.size 85 3 (.slice x.2.1 x.1.length x.2.2) x.1.length (flat x.1)) (ho : w6.ownsRow n0 28 3 v' (Cs.length + 1) (cutsV W H Cs ++ cutV W H x)) (hg : wt.grownBy w6 sl.ownBlock)
    (hat : v'.ownBlock = sl.ownBlock ∨ v'.ownBlock = some wt.heap.size) : OUT n0 Bo W H (Cs ++ [x]) v' w0 (w6.setCell ⟨Bo, 0, none⟩ v') ∧ KB Bo sl.ownBlock w.heap.size w (w6.setCell ⟨Bo, 0, none⟩ v') := by
  have ht := h.keep hb hn
  have hB := World.block_lt_of_cell? _ _ h.c
  dsimp only at hB
  have hs1 := hb.size
  have hs2 := hg.size
  have hsl := fun b (e : sl.ownBlock = some b) => h.own.lt b e
  have hxl := fun b (e : ownC x = some b) => hx.lt b e
  have g7 := put_grown w6 ⟨Bo, 0, none⟩ v'
  have bk : ∀ k, k < wt.heap.size → some k ≠ sl.ownBlock → k ≠ Bo → (w6.setCell ⟨Bo, 0, none⟩ v').heap[k]? = wt.heap[k]? := fun k hk h1 h2 => (g7.block k (by omega) (fun e => h2 (by cases e; rfl))).trans (hg.block k hk h1)
  have hne : v'.ownBlock ≠ some Bo := fun e => by
    rcases hat with h1 | h1
    · rw [h1] at e; exact h.no e
    · rw [h1] at e; cases e; omega
  refine ⟨⟨World.cell?_setCell_same' _ _ _ ?_, by rw [World.frozen?_setCell]; exact (hg.frozen_far ⟨Bo, 0, none⟩ (by show Bo < _; omega) (fun e => h.no e.symm)).trans ht.f, h.nb, ?_, hne, fun y hy => ?_, fun y hy b hbk => ?_, ?_, ?_⟩, ?_⟩
  · rw [hg.cell ht.c (fun e => h.no e.symm)]; rfl
  · rw [List.length_append, cutsV_app]
    refine own_of_block (A := w6) (by simpa [cutsV] using ho) (fun k hk => g7.block k (ho.lt k hk).2 (fun e => hne (by rw [hk]; cases e; rfl)))
  · rcases List.mem_append.1 hy with hy | hy
    · refine own_of_block (ht.sq y hy) (fun k hk => ?_)
      have := h.nx y hy k hk
      exact bk k ((ht.sq y hy).lt k hk).2 this.2 this.1
    · rw [List.mem_singleton] at hy
      subst hy
      refine own_base (own_of_block hx (fun k hk => ?_)) hn
      have := hxl k hk
      refine bk k this.2 (fun e => ?_) (by omega)
      have := (hsl k e.symm).2
      omega
  · rcases List.mem_append.1 hy with hy | hy
    · have h1 := h.nx y hy b hbk
      refine ⟨h1.1, fun e => ?_⟩
      rcases hat with h2 | h2
      · rw [h2] at e; exact h1.2 e
      · rw [h2] at e; cases e
        have := ((h.sq y hy).lt _ hbk).2
        omega
    · rw [List.mem_singleton] at hy
      subst hy
      have h1 := hxl b hbk
      refine ⟨by omega, fun e => ?_⟩
      rcases hat with h2 | h2
      · rw [h2] at e
        have := (hsl b e.symm).2
        omega
      · rw [h2] at e; cases e; omega
  · rw [List.pairwise_append]
    refine ⟨h.ds, List.pairwise_singleton _ _, fun y hy z hz b hbk e => ?_⟩
    rw [List.mem_singleton] at hz
    subst hz
    have := (hxl b e).1
    have := ((h.sq y hy).lt b hbk).2
    omega
  · refine ((ht.b.grown hg (by omega) (fun k e => (hsl k e).1))).setCell (p := ⟨Bo, 0, none⟩) h.nb _
  · exact ⟨(g7.os.trans hg.os).trans hb.os, (g7.tape.trans hg.tape).trans hb.tape, (g7.output.trans hg.output).trans hb.output, by have := g7.size; omega, fun k hk h1 h2 => (bk k (by omega) h2 h1).trans (hb.block k hk)⟩
theorem sorted_same {T L : List Sq} (hp : T.Perm L) (hT : T.Pairwise (fun a b => leB a b = true)) (hL : L.Pairwise lt2) : T = L := by
  refine List.Perm.eq_of_pairwise (le := fun a b => leB a b = true) (fun a b ha hb h1 h2 => ?_) hT (hL.imp fun h => leB_iff.2 fun k => lt2_irrefl h k) hp
  have hd : ∀ a ∈ L, ∀ b ∈ L, ¬ lt2 a b → ¬ lt2 b a → a = b := by
    intro a ha b hb h3 h4
    obtain ⟨i, hi, rfl⟩ := List.mem_iff_getElem.1 ha
    obtain ⟨j, hj, rfl⟩ := List.mem_iff_getElem.1 hb
    rcases Nat.lt_trichotomy i j with h | h | h
    · exact absurd (List.pairwise_iff_getElem.1 hL i j hi hj h) h3
    · subst h; rfl
    · exact absurd (List.pairwise_iff_getElem.1 hL j i hj hi h) h4
  exact hd a (hp.mem_iff.1 ha) b hb (leB_iff.1 h2) (leB_iff.1 h1)
end Go.Proofs.Ytdpbjmdgjhleeaa
namespace Go.Proofs.Ytdpbjmdgjhleeaa
open Go.RowKit

def LookPost (n0 Bo : Nat) (W H : Int) (Cs : List CV) (sl : Value) (w0 w : World) (L : List Sq) (R : List (List Sq)) (e : Ending) (w' : World) : Prop :=
  e = .returned (.tuple #[]) ∧ ∃ (Ds : List CV) (sl' : Value), Ds.map (·.1) = R.reverse.map (L ++ ·) ∧ OUT n0 Bo W H (Cs ++ Ds) sl' w0 w' ∧ KB Bo sl.ownBlock w.heap.size w w' ∧ ∀ b, sl'.ownBlock = some b → sl.ownBlock = some b ∨ w.heap.size ≤ b
theorem infoCut : (Try.prog.info? 28).map (fun i => (i.zero, i.size, i.bytes)) = some (some (.agg #[.int .i64 0, .int .i64 0, .slice none 0 0]), 3, 40) := by kernel_rfl
theorem sum_take (f : List Int) (j : Nat) (u : Int) (h : f[j]? = some u) : (f.take (j + 1)).sum = (f.take j).sum + u := by
  rw [List.take_add_one, h]; simp
theorem oneCut (a b : Int) (A : Option Addr) (n c : Nat) : ∀ u ∈ [Value.int .i64 a, Value.int .i64 b, Value.slice A n c], u.oneCell' = true := by
  intro u hu; simp at hu; rcases hu with rfl | rfl | rfl <;> rfl
theorem src_own {w : World} {B e s n c : Nat} {A : Option Addr} {xs : List Value} (h : w.ownsRow B e s (.slice A n c) n xs) : Src w A n c xs := by
  cases A with
  | none =>
    obtain ⟨rfl, rfl⟩ := own_none h
    refine .inl ⟨rfl, rfl, rfl, List.eq_nil_of_length_eq_zero ?_⟩
    have := h.1
    simpa using this
  | some ad =>
    rcases h.2 with ⟨hv, _⟩ | ⟨g, cap, cur, hv, _⟩
    · cases hv
    · cases hv
      refine .inr ⟨⟨g, 0, none⟩, rfl, fun j u hu => ?_⟩
      have hj : j < n * s := by have := (List.getElem?_eq_some_iff.1 hu).1; rw [h.1] at this; exact this
      rw [add_at, Nat.zero_add]
      exact (h.cellAt j hj).trans hu
theorem seg_split (g : Nat → List (List Sq)) : ∀ (n i : Nat), (List.range (i + n)).flatMap g = (List.range i).flatMap g ++ segF g i n := by
  intro n
  induction n with
  | zero => intro i; simp [segF]
  | succ n ih =>
    intro i
    rw [show i + (n + 1) = (i + 1) + n by omega, ih (i + 1), segF_succ, flatMap_range_succ, List.append_assoc]
theorem seg_count (g : Nat → List (List Sq)) {i r : Nat} (h : i + 1 ≤ r) : ((List.range r).flatMap g).length = ((List.range i).flatMap g).length + (g i).length + (segF g (i + 1) (r - (i + 1))).length := by
  obtain ⟨n, rfl⟩ : ∃ n, r = (i + 1) + n := ⟨r - (i + 1), by omega⟩
  rw [seg_split g n (i + 1), flatMap_range_succ, show i + 1 + n - (i + 1) = n by omega]
  simp only [List.length_append]
set_option maxRecDepth 100000 in
set_option maxHeartbeats 2000000 in
theorem l1Own_any (A : Option Addr) (n c : Nat) (f : List Int) (w : World) (hl : f.length = n) (h1 : 1 ≤ n) (hn : n ≤ 1000) (hL : IntsAt w w.heap.size A f) :
    Calls Try.prog 126 #[.slice A n c] w fun e w' => ∃ g' c', e = .returned (.slice (some ⟨g', 0, none⟩) n c') ∧ w'.ownsRow w.heap.size 3 1 (.slice (some ⟨g', 0, none⟩) n c') n (ints f) ∧ Below w.heap.size w w' := by
  obtain ⟨u0, hu0⟩ : ∃ u, f[0]? = some u := ⟨_, List.getElem?_eq_getElem (by omega)⟩
  obtain ⟨b, off, rfl, hb, _⟩ := hL 0 u0 hu0
  obtain ⟨i0, hi, hz0, hz1, hz2⟩ := info_parts infoInt
  have hsrc : ∀ o, Src (w.alloc o) (some ⟨b, off, none⟩) n c (ints f) := fun o => .inr ⟨_, rfl, fun j u hu => by
    unfold ints at hu
    rw [List.getElem?_map] at hu
    cases h : f[j]? with
    | none => rw [h] at hu; cases hu
    | some v =>
      rw [h] at hu
      simp only [Option.map_some, Option.some.injEq] at hu
      obtain ⟨b', off', e, hb', hc'⟩ := hL j v h
      cases e
      rw [← hu]
      have := (World.cell?_alloc_lt w o ⟨b, off + j, none⟩ hb').trans hc'
      rw [add_at]
      exact this⟩
  have hil : (ints f).length = n * 1 := by rw [ints_len]; omega
  have h1c : ∀ u ∈ ints f, u.oneCell' = true := by
    intro u hu
    unfold ints at hu
    obtain ⟨v, _, rfl⟩ := List.mem_map.1 hu
    rfl
  have HIL := Lib.hid hil
  have hr1 : 0 + n ≤ maxLen := by unfold maxLen; omega
  clear hL hl hil hu0
  go_enter Try.func126, Try.ntmps126
  go_wp2_with (at_builtin; refine app_list rfl _ _ _ rfl w.heap.size 3 i0 (.int .i64 0) 1 8 Try.underlying49 hi hz0 hz1 hz2 rfl (by decide) (.slice (some ⟨w.heap.size, 0, none⟩) 0 0) 0 [] rfl (World.ownsRow_lit w #[] 0 (Nat.le_refl _) (Nat.zero_le _) rfl) (some ⟨b, off, none⟩) n c (ints f) rfl HIL.out (hsrc _) h1c hr1 (by omega) (by simp) ?_; intro v' w1 hown hgr _; have hb1 : Below w.heap.size w w1 := ((Below.refl _ w).alloc (Nat.le_refl _) _).grown hgr (by simp) (fun kk hkk => by simp [Value.ownBlock] at hkk; omega))
  go_ret
  simp only [Nat.zero_add, List.nil_append] at hown
  obtain ⟨A', c', rfl⟩ := own_val hown
  obtain ⟨g', rfl⟩ := own_form hown h1
  exact ⟨g', c', rfl, hown, hb1⟩

set_option maxRecDepth 100000 in
set_option maxHeartbeats 16000000 in
theorem look_node (W H n0 Bo : Nat) (hW1 : 1 ≤ W) (hW : W ≤ 13) (hH1 : 1 ≤ H) (hH : H ≤ 6) (k : Nat)
    (IH : ∀ k', k = k' + 1 → ∀ (f : List Int) (L : List Sq) (A : Option Addr) (c : Nat) (Cs : List CV) (sl : Value) (more gf cf : Nat) (w0 w : World), Cs.length ≤ 1000000000 → Fl W H f → free W H f ≤ k' → L.length + free W H f ≤ 30 → free W H f ≤ more → more ≤ 1000 → (∀ M ∈ fills 6 H k' f, (L ++ M).Pairwise lt2) → w.ownsRow n0 3 1 (.slice (some ⟨gf, 0, none⟩) W cf) W (ints f) → gf ≠ Bo → some gf ≠ sl.ownBlock → w.ownsRow n0 85 3 (.slice A L.length c) L.length (flat L) → (∀ b, (Value.slice A L.length c).ownBlock = some b → b ≠ Bo ∧ some b ≠ sl.ownBlock) → OUT n0 Bo W H Cs sl w0 w → Cs.length + (fills 6 H k' f).length ≤ 1000000000 →
      Calls Try.prog 113 #[.int .i64 W, .int .i64 H, .slice (some ⟨gf, 0, none⟩) W cf, .slice A L.length c, .int .i64 more, .pointer (some ⟨Bo, 0, none⟩)] w (LookPost n0 Bo W H Cs sl w0 w L (fills 6 H k' f)))
    (f : List Int) (L : List Sq) (A : Option Addr) (c : Nat) (Cs : List CV) (sl : Value) (more gf cf : Nat) (w0 w : World) (hCs : Cs.length ≤ 1000000000) : Fl W H f → free W H f ≤ k → L.length + free W H f ≤ 30 → free W H f ≤ more → more ≤ 1000 → (∀ M ∈ fills 6 H k f, (L ++ M).Pairwise lt2) → w.ownsRow n0 3 1 (.slice (some ⟨gf, 0, none⟩) W cf) W (ints f) → gf ≠ Bo → some gf ≠ sl.ownBlock → w.ownsRow n0 85 3 (.slice A L.length c) L.length (flat L) → (∀ b, (Value.slice A L.length c).ownBlock = some b → b ≠ Bo ∧ some b ≠ sl.ownBlock) → OUT n0 Bo W H Cs sl w0 w → Cs.length + (fills 6 H k f).length ≤ 1000000000 →
      Calls Try.prog 113 #[.int .i64 W, .int .i64 H, .slice (some ⟨gf, 0, none⟩) W cf, .slice A L.length c, .int .i64 more, .pointer (some ⟨Bo, 0, none⟩)] w (LookPost n0 Bo W H Cs sl w0 w L (fills 6 H k f)) := by
  intro hf hk h30 hmo hm1000 hso hof hg1 hg2 hoL hb1 hO hle
  have HLE := Lib.hid hle
  clear hle
  have hn0 : n0 ≤ w.heap.size := Nat.le_trans (own_lt hof).1 (Nat.le_of_lt (own_lt hof).2)
  have hfl := hf.len
  have hsum := hf.sum
  have HIH := Lib.hid IH
  have HF := Lib.hid hf
  have HSO := Lib.hid hso
  have HCS := Lib.hid hCs
  have hcell : ∀ (j : Nat) u, f[j]? = some u → w.cell? ⟨gf, j, none⟩ = some (.int .i64 u) := fun j u hu => by
    rw [hof.cellAt j (by have := (List.getElem?_eq_some_iff.1 hu).1; omega)]
    simp [ints, hu]
  have HC := Lib.hid hcell
  have hfr : (free W H f : Int) = W * H - f.sum := by unfold free; omega
  have HFR := Lib.hid hfr
  have HSM := Lib.hid hsum
  clear IH hf hso hCs hcell hfr hsum
  go_enter Try.func113, Try.ntmps113
  go_wp2_with fail
  go_loopw [12, 13, 24] (fun xv lv iv wr => ∃ (j x : Nat) (t : Int), j ≤ W ∧ iv = .int .i64 (j : Int) ∧ xv = .int .i64 (x : Int) ∧ lv = .int .i64 t ∧ t = j * H - (f.take j).sum ∧ 0 ≤ t ∧ t ≤ 6 * j ∧ Scan f j x ∧ w = wr) (fun _ _ iv _ => W - (intOf iv).toNat)
  case atStart => exact ⟨0, 0, 0, Nat.zero_le _, rfl, rfl, rfl, by simp, by omega, by omega, Scan.start (by omega), rfl⟩
  case round =>
    obtain ⟨j, x, t, hjm, rfl, rfl, rfl, ht, ht0, ht6, hsc, rfl⟩ := hrel
    have hxl := hsc.1
    obtain ⟨y, hy⟩ : ∃ y, f[x]? = some y := ⟨_, List.getElem?_eq_getElem hxl⟩
    have xc := HC.out x y hy
    have x0 : (0 : Int) ≤ (x : Int) := by omega
    have x1 : (x : Int) < (W : Int) := by omega
    have HY := Lib.hid hy
    have HSC := Lib.hid hsc
    have HT := Lib.hid ht
    clear hy hsc ht
    by_cases hjl : j < W
    · obtain ⟨u, hu⟩ : ∃ u, f[j]? = some u := ⟨_, List.getElem?_eq_getElem (by omega)⟩
      have jc := HC.out j u hu
      have j0' : (0 : Int) ≤ (j : Int) := by omega
      have j1 : (j : Int) < (W : Int) := by omega
      have ulo := HF.out.lo _ _ hu
      have uhi := HF.out.hi _ _ hu
      have hst : t + ((H : Int) - u) = ((j + 1 : Nat) : Int) * H - (f.take (j + 1)).sum := by
        rw [sum_take f j u hu, HT.out]
        have : ((j + 1 : Nat) : Int) * (H : Int) = j * H + H := by rw [Int.natCast_succ, Int.add_mul, Int.one_mul]
        omega
      have HST := Lib.hid hst
      have HU := Lib.hid hu
      clear hu hst
      by_cases huy : u < y
      · go_wp2_with fail
        go_roundw
        case rel => exact ⟨j + 1, j, _, by omega, by go_num, rfl, rfl, HST.out, by omega, by omega, HSC.out.new HY.out HU.out huy, trivial⟩
        case measure => simp [intOf]; omega
      · go_wp2_with fail
        go_roundw
        case rel => exact ⟨j + 1, x, _, by omega, by go_num, rfl, rfl, HST.out, by omega, by omega, HSC.out.on HY.out HU.out huy, trivial⟩
        case measure => simp [intOf]; omega
    · obtain rfl : W = j := by omega
      have htf : t = (free W H f : Int) := by
        rw [HT.out, HFR.out, List.take_of_length_le (by omega)]
      have HTF := Lib.hid htf
      clear htf
      by_cases h0 : t = 0
      · subst h0
        have hfr0 : free W H f = 0 := by have := HTF.out; omega
        have hr0 : ∃ x y, FM f x y ∧ RM f H x y 0 := by
          obtain ⟨x, y, r, hm, hr⟩ := HF.out.rm hW1
          have := HF.out.zero hfr0 hm hr
          subst this
          exact ⟨x, y, hm, hr⟩
        obtain ⟨x9, y9, hm9, hr9⟩ := hr0
        have hlf := fills_leaf (m := 6) (k := k) hm9 hr9
        have hLs : L.Pairwise lt2 := by have := HSO.out [] (by rw [hlf]; exact List.mem_singleton_self _); simpa using this
        have HLF := Lib.hid hlf
        have HLS := Lib.hid hLs
        have oc := hO.c
        have of' := hO.f
        obtain ⟨i0, hi, hz0, hz1, hz2⟩ := info_parts infoCut
        have hCl : Cs.length + 1 ≤ maxLen ∧ (Cs.length + 1) * 40 ≤ 140737488355328 := by have := HCS.out; unfold maxLen; omega
        have HOU := Lib.hid hO
        have HOL := Lib.hid hoL
        have CS := fun w' (hb : Below w.heap.size w w') => cuSorted_any A L.length c L w' rfl (by omega) ((sqs_of_own hoL).mono (Nat.le_refl _) |>.below hb |>.mono hb.size)
        have HCSR := Lib.hid CS
        have hBo := World.block_lt_of_cell? _ _ oc
        dsimp only at hBo
        have HS : ∀ w', Below w.heap.size w w' → w'.cell? ⟨Bo, 0, none⟩ = some sl := fun w' hb => (hb.cell (p := ⟨Bo, 0, none⟩) hBo).trans oc
        clear hlf hLs hO hoL CS hr9 hm9 hfr0
        go_wp2_with fail
        refine wp_region_top 12 (fun w' => w'.cell? ⟨Bo, 0, none⟩ = some sl) (by kernel_rfl) (HS _ ((Below.refl _ _).drew)) (fun hHeld => ?_)
        refine wpTop.take 0 (v := ?_) rfl (by kernel_rfl) (by kernel_rfl) (by kernel_rfl) (by kernel_rfl) (fun _ _ _ h => h) (Or.inl ⟨by rfl, ?_⟩) (by assumption) ?_
        rotate_left
        · intro w hSw; (try dsimp only at hSw); go_simp; try (with_reducible rfl)
        try simp only [Act.put, List.setIfInBounds_toArray, List.set_cons_zero, List.set_cons_succ, List.getElem_toArray, List.getElem_cons_zero, List.getElem_cons_succ]
        refine wpTop.take 1 (v := ?_) rfl (by kernel_rfl) (by kernel_rfl) (by kernel_rfl) (by kernel_rfl) (fun _ _ _ h => h) (Or.inl ⟨by rfl, ?_⟩) (by assumption) ?_
        rotate_left
        · intro w hSw; (try dsimp only at hSw); go_simp; try (with_reducible rfl)
        try simp only [Act.put, List.setIfInBounds_toArray, List.set_cons_zero, List.set_cons_succ, List.getElem_toArray, List.getElem_cons_zero, List.getElem_cons_succ]
        refine wpTop.take 2 (v := ?_) rfl (by kernel_rfl) (by kernel_rfl) (by kernel_rfl) (by kernel_rfl) (fun _ _ _ h => h) (Or.inl ⟨by rfl, ?_⟩) (by assumption) ?_
        rotate_left
        · intro w hSw; (try dsimp only at hSw); go_simp; try (with_reducible rfl)
        try simp only [Act.put, List.setIfInBounds_toArray, List.set_cons_zero, List.set_cons_succ, List.getElem_toArray, List.getElem_cons_zero, List.getElem_cons_succ]
        refine wpTop.take 3 (v := ?_) rfl (by kernel_rfl) (by kernel_rfl) (by kernel_rfl) (by kernel_rfl) (fun _ _ _ h => h) (Or.inl ⟨by rfl, ?_⟩) (by assumption) ?_
        rotate_left
        · intro w hSw; (try dsimp only at hSw); go_simp; try (with_reducible rfl)
        try simp only [Act.put, List.setIfInBounds_toArray, List.set_cons_zero, List.set_cons_succ, List.getElem_toArray, List.getElem_cons_zero, List.getElem_cons_succ]
        refine wpTop.take 4 (v := ?_) rfl (by kernel_rfl) (by kernel_rfl) (by kernel_rfl) (by kernel_rfl) (fun _ _ _ h => h) (Or.inl ⟨by rfl, ?_⟩) (by assumption) ?_
        rotate_left
        · intro w hSw; (try dsimp only at hSw); go_simp; try (with_reducible rfl)
        try simp only [Act.put, List.setIfInBounds_toArray, List.set_cons_zero, List.set_cons_succ, List.getElem_toArray, List.getElem_cons_zero, List.getElem_cons_succ]
        refine wpTop.take 5 (v := ?_) rfl (by kernel_rfl) (by kernel_rfl) (by kernel_rfl) (by kernel_rfl) (fun _ _ _ h => h) (Or.inl ⟨by rfl, ?_⟩) (by assumption) ?_
        rotate_left
        · intro w hSw; (try dsimp only at hSw); go_simp; try (with_reducible rfl)
        try simp only [Act.put, List.setIfInBounds_toArray, List.set_cons_zero, List.set_cons_succ, List.getElem_toArray, List.getElem_cons_zero, List.getElem_cons_succ]
        refine wpTop.take 6 (v := ?_) rfl (by kernel_rfl) (by kernel_rfl) (by kernel_rfl) (by kernel_rfl) (fun _ _ _ h => h) (Or.inl ⟨by rfl, ?_⟩) (by assumption) ?_
        rotate_left
        · intro w hSw; (try dsimp only at hSw); go_simp; try (with_reducible rfl)
        try simp only [Act.put, List.setIfInBounds_toArray, List.set_cons_zero, List.set_cons_succ, List.getElem_toArray, List.getElem_cons_zero, List.getElem_cons_succ]
        refine wpTop.one 7 rfl (by kernel_rfl) (fun K hK => ?_)
        go_simp
        (with_reducible refine (HCSR.out _ ((Below.refl _ _).drew)).mono ?_)
        rintro e w3 ⟨A3, c3, T, rfl, hp3, ht3, o3, hb3'⟩
        have hb3 : Below w.heap.size w w3 := ((Below.refl w.heap.size w).drew).trans hb3'
        obtain rfl : L = T := (sorted_same hp3 ht3 HLS.out).symm
        have o3 : w3.ownsRow w.heap.size 85 3 (.slice A3 L.length c3) L.length (flat L) := o3
        clear hp3 ht3 hb3' HCSR
        refine hK.out _ _ (fun _ => HS _ hb3) (fun hH => ?_)
        clear hK K
        have hHeld := hH (by decide)
        clear hH
        try simp only [Act.put, List.setIfInBounds_toArray, List.set_cons_zero, List.set_cons_succ, List.getElem_toArray, List.getElem_cons_zero, List.getElem_cons_succ]
        refine wpTop.one 8 rfl (by kernel_rfl) (fun K hK => ?_)
        go_simp
        clear hHeld
        refine hK.out _ _ (fun _ => HS _ hb3) (fun hH => ?_)
        clear hK K
        have hHeld := hH (by decide)
        clear hH
        try simp only [Act.put, List.setIfInBounds_toArray, List.set_cons_zero, List.set_cons_succ, List.getElem_toArray, List.getElem_cons_zero, List.getElem_cons_succ]
        refine wpTop.one 9 rfl (by kernel_rfl) (fun K hK => ?_)
        go_simp
        clear hHeld
        refine hK.out _ _ (fun _ => HS _ (hb3.alloc hb3.size _)) (fun hH => ?_)
        clear hK K
        have hHeld := hH (by decide)
        clear hH
        try simp only [Act.put, List.setIfInBounds_toArray, List.set_cons_zero, List.set_cons_succ, List.getElem_toArray, List.getElem_cons_zero, List.getElem_cons_succ]
        have O3 := HOU.out.keep hb3 hn0
        have hz3 := hb3.size
        have O4 := O3.keep ((Below.refl w3.heap.size w3).alloc (Nat.le_refl _) (.cells #[.int .i64 W, .int .i64 H, .slice A3 L.length c3] 28)) (by omega)
        refine wpTop.one 10 rfl (by kernel_rfl) (fun K hK => ?_)
        refine app_step rfl _ _ _ rfl n0 28 i0 (.agg #[.int .i64 0, .int .i64 0, .slice none 0 0]) 3 40 Try.underlying38 hi hz0 hz1 hz2 rfl (by decide) sl Cs.length (cutsV W H Cs) rfl O4.own (some ⟨w3.heap.size, 0, none⟩) 1 1 [.int .i64 W, .int .i64 H, .slice A3 L.length c3] rfl rfl (.inr ⟨_, rfl, new3 _ _ _ _ _⟩) (oneCut _ _ _ _ _) hCl.1 hCl.2 (by simp; omega) ?_
        intro v' w6 hown6 hgrow hat
        obtain ⟨A6, c6, rfl⟩ := own_val hown6
        have q6 : w6.cell? ⟨Bo, 0, none⟩ = some sl := hgrow.cell O4.c (fun e => O4.no e.symm)
        have qf6 : w6.frozen? ⟨Bo, 0, none⟩ = false := (hgrow.frozen_far ⟨Bo, 0, none⟩ (by show Bo < _; simp; omega) (fun e => O4.no e.symm)).trans O4.f
        obtain ⟨P1, P2⟩ := HOU.out.push (x := (L, A3, c3)) hn0 (hb3.alloc hz3 (.cells #[.int .i64 W, .int .i64 H, .slice A3 L.length c3] 28)) (own_keep o3 ((Below.refl w3.heap.size w3).alloc (Nat.le_refl _) _)) hown6 hgrow hat
        have hb6 : ∀ b, (Value.slice A6 (Cs.length + 1) c6).ownBlock = some b → sl.ownBlock = some b ∨ w.heap.size ≤ b := fun b hb => by
          rcases hat with h | h
          · exact .inl (h ▸ hb)
          · right; rw [h] at hb; cases hb; simp; omega
        have HP1 := Lib.hid P1
        have HP2 := Lib.hid P2
        have HB6 := Lib.hid hb6
        refine hK.out _ _ (fun _ => q6) (fun hH => ?_)
        clear hK K hH P1 P2 hb6 hat hgrow hown6 O3 O4 o3 hb3 HS hHeld
        try simp only [Act.put, List.setIfInBounds_toArray, List.set_cons_zero, List.set_cons_succ, List.getElem_toArray, List.getElem_cons_zero, List.getElem_cons_succ]
        refine wpTop.one 11 rfl (by kernel_rfl) (fun K hK => ?_)
        go_simp

        refine hK.out _ _ (fun _ => q6) (fun hH => ?_)
        clear hK K
        clear hH
        try simp only [Act.put, List.setIfInBounds_toArray, List.set_cons_zero, List.set_cons_succ, List.getElem_toArray, List.getElem_cons_zero, List.getElem_cons_succ]
        refine wpTop.one 12 rfl (by kernel_rfl) (fun K hK => ?_)
        go_simp

        refine hK.out _ _ (fun h => absurd h (by decide)) (fun hH => ?_)
        clear hK K
        clear hH
        try simp only [Act.put, List.setIfInBounds_toArray, List.set_cons_zero, List.set_cons_succ, List.getElem_toArray, List.getElem_cons_zero, List.getElem_cons_succ]
        refine wpTop.all (by kernel_rfl) ?_ _
        go_wp2_with fail
        go_end0
        refine ⟨rfl, [(L, A3, c3)], .slice A6 (Cs.length + 1) c6, ?_, HP1.out, HP2.out, HB6.out⟩
        rw [HLF.out]; simp
      · have h0' : (t == 0) = false := by simpa using h0
        have hsf : Scan f f.length x := by rw [hfl]; exact HSC.out
        obtain ⟨y', hmn⟩ := hsf.fin
        obtain rfl : y' = y := Option.some.inj (hmn.1.symm.trans HY.out)
        have HM := Lib.hid hmn
        have hylo := HF.out.lo x y' HY.out
        have hyhi := HF.out.hi x y' HY.out
        have hfp : 0 < free W H f := by have := HTF.out; omega
        obtain ⟨k, rfl⟩ : ∃ k', k = k' + 1 := ⟨k - 1, by omega⟩
        have HIK := Lib.hid (HIH.out k rfl)
        have HOU := Lib.hid hO
        have HOL := Lib.hid hoL
        clear hmn hsf HIH hO hoL
        go_wp2_with fail
        clear xc
        go_loopw [16] (fun v wr => ∃ (u : Nat), v = .int .i64 (u : Int) ∧ x + u ≤ W ∧ Lvl f x u y' ∧ Below w.heap.size w wr) (fun v _ => W - (intOf v).toNat)
        case atStart => exact ⟨0, rfl, by omega, fun i h1 h2 => by omega, Below.refl _ _⟩
        case round =>
          obtain ⟨u, rfl, ht, hlv, hbt⟩ := hrel
          have hgfN := (own_lt hof).2
          have xc := (hbt.cell (p := ⟨gf, x, none⟩) hgfN).trans (HC.out x y' HY.out)
          have HLV := Lib.hid hlv
          clear hlv
          by_cases htW : x + u < W
          · obtain ⟨p, hp⟩ : ∃ p, f[x + u]? = some p := ⟨_, List.getElem?_eq_getElem (by omega)⟩
            have tc := (hbt.cell (p := ⟨gf, x + u, none⟩) hgfN).trans (HC.out _ _ hp)
            have i1 : (x : Int) + (u : Int) < (W : Int) := by omega
            have i0 : (0 : Int) ≤ (x : Int) + (u : Int) := by omega
            have HU := Lib.hid hp
            clear hp
            cases huy : (p == y')
            · go_wp2_with fail
              go_quiet (fail)
              have HN : ¬ (x + u < f.length ∧ f[x + u]? = some y') := fun h => by
                have := h.2
                rw [HU.out] at this
                cases this
                simp at huy
              obtain ⟨wq, hwq⟩ : ∃ wq, wq = wr.drewN nq := ⟨_, rfl⟩
              have hbq : Below w.heap.size w wq := by rw [hwq]; exact hbt.trans (below_drewN (Below.refl _ _) nq)
              rw [← hwq]
              have hRM := RM.of_cols (H := H) (y := y') (x := x) (k := u) (by omega) hyhi HLV.out HN
              obtain ⟨r, hr⟩ : ∃ r : Nat, r = (min (u : Int) ((H : Int) - y')).toNat := ⟨_, rfl⟩
              rw [← hr] at hRM
              have hr0 : r ≠ 0 := fun e => by
                subst e
                have := HF.out.done HM.out hRM
                have h1 := HTF.out
                rw [HFR.out] at h1
                omega
              have hRi : min (u : Int) ((H : Int) - y') = (r : Int) := by omega
              have hrw := hRM.w
              have hrh := hRM.h
              have hND := fills_node (m := 6) (k := k) HM.out hRM hr0
              rw [show min r 6 = r by omega] at hND
              have HND := Lib.hid hND
              have HRM := Lib.hid hRM
              have HRI := Lib.hid hRi
              have xq : wq.cell? ⟨gf, x, none⟩ = some (.int .i64 y') := (hbq.cell (p := ⟨gf, x, none⟩) (show gf < _ by omega)).trans (HC.out x y' HY.out)
              obtain ⟨q, hq⟩ : ∃ q : Nat, q = min W H := ⟨_, rfl⟩
              have hq' : min (W : Int) (H : Int) = (q : Int) := by omega
              have hq1 : 1 ≤ q ∧ q ≤ 6 := by omega
              have hp1 : more * 1 ≤ more * q ∧ more * q ≤ more * 6 := ⟨Nat.mul_le_mul_left _ hq1.1, Nat.mul_le_mul_left _ hq1.2⟩
              have hp2 : more * q * 1 ≤ more * q * q ∧ more * q * q ≤ more * q * 6 := ⟨Nat.mul_le_mul_left _ hq1.1, Nat.mul_le_mul_left _ hq1.2⟩
              have wa : IntKind.i64.wrap ((more : Int) * (q : Int)) = (more : Int) * (q : Int) := IntWalk.i64_in _ (by rw [← Int.natCast_mul]; omega)
              have wb : IntKind.i64.wrap ((more : Int) * (q : Int) * (q : Int)) = (more : Int) * (q : Int) * (q : Int) := IntWalk.i64_in _ (by rw [← Int.natCast_mul, ← Int.natCast_mul]; omega)
              have wd : decide ((more : Int) * (q : Int) * (q : Int) < t) = false := by rw [decide_eq_false_iff_not, ← Int.natCast_mul, ← Int.natCast_mul]; have := HTF.out; omega
              have WA := Lib.hid wa
              have WB := Lib.hid wb
              have WD := Lib.hid wd
              have HQ' := Lib.hid hq'
              have HHQ := Lib.hid hq
              clear hwq hRM hRi hr hND xc tc hq hq' hp1 hp2 wa wb wd
              go_wp2_with fail
              refine (least_any _ _ _).mono ?_
              rintro e w' ⟨rfl, rfl⟩
              rw [HRI.out]
              go_wp2_with fail
              refine (least_any _ _ _).mono ?_
              rintro e w' ⟨rfl, rfl⟩
              rw [HQ'.out]
              have wa := WA.out
              have wb := WB.out
              have wd := WD.out
              go_wp2_with fail
              clear wa wb wd xq
              go_loopw [18] (fun v wr => ∃ (i : Nat) (Ds : List CV) (sr : Value), i ≤ r ∧ v = .int .i64 (i : Int) ∧ Ds.map (·.1) = ((segF (stepF 6 H k f x y' (fills 6 H)) i (r - i)).reverse).map (L ++ ·) ∧ OUT n0 Bo W H (Cs ++ Ds) sr w0 wr ∧ KB Bo sl.ownBlock w.heap.size w wr ∧ (∀ b, sr.ownBlock = some b → sl.ownBlock = some b ∨ w.heap.size ≤ b)) (fun v _ => (intOf v).toNat)
              case atStart => exact ⟨r, [], sl, Nat.le_refl _, rfl, by simp [segF], by rw [List.append_nil]; exact HOU.out.keep hbq hn0, KB.of_below hbq, fun b hb => .inl hb⟩
              case round =>
                obtain ⟨i, Ds, sr, hir, rfl, hDs, hOi, hKi, hsr⟩ := hrel
                have HDS := Lib.hid hDs
                clear hDs
                rcases i with _ | i
                · have i0' : ¬ (0 : Int) < ((0 : Nat) : Int) := by omega
                  have HOI := Lib.hid hOi
                  have HSR := Lib.hid hsr
                  have HKI := Lib.hid hKi
                  clear hOi hsr hKi
                  go_wp2_with fail
                  go_end0
                  refine ⟨rfl, Ds, sr, ?_, HOI.out, HKI.out, HSR.out⟩
                  rw [HDS.out, HND.out, ← segF_all, Nat.sub_zero]
                · have i1 : (0 : Int) < ((i + 1 : Nat) : Int) := by omega
                  obtain ⟨wo, rfl⟩ : ∃ wo : World, wo = wr := ⟨_, rfl⟩
                  have hgfN := own_lt hof
                  have kf := hKi.block gf hgfN.2 hg1 hg2
                  have rowF := own_of_block (C := wo) hof (fun k hk => by cases hk; exact kf)
                  have rowL := own_of_block (C := wo) HOL.out (fun k hk => hKi.block k ((HOL.out.lt k hk).2) (hb1 k hk).1 (hb1 k hk).2)
                  have hno : n0 ≤ wo.heap.size := Nat.le_trans hn0 hKi.size
                  have hgfo := own_lt rowF
                  have xo : wo.cell? ⟨gf, x, none⟩ = some (.int .i64 y') := by
                    rw [rowF.cellAt x (by omega)]; simp [ints, HY.out]
                  have HOI := Lib.hid hOi
                  have HSR := Lib.hid hsr
                  have HKI := Lib.hid hKi
                  have HRL := Lib.hid rowL
                  have CO := l1Own_any (some ⟨gf, 0, none⟩) W cf f wo hfl hW1 (by omega) (ints_of_own rowF)
                  clear hOi hsr hKi rowL rowF kf
                  go_wp2_with fail
                  refine CO.mono ?_
                  rintro e w1 ⟨g', c', rfl, o1, hbo1⟩
                  clear CO
                  go_wp2_with fail
                  go_loopw [20] (fun v wr => ∃ (a : Nat), v = .int .i64 ((x + a : Nat) : Int) ∧ a ≤ i + 1 ∧ wr.ownsRow wo.heap.size 3 1 (.slice (some ⟨g', 0, none⟩) W c') W (ints (liftF f x a ((i + 1 : Nat) : Int))) ∧ Below wo.heap.size wo wr) (fun v _ => x + (i + 1) - (intOf v).toNat)
                  case atStart => exact ⟨0, rfl, by omega, by rw [liftF_zero]; exact o1, hbo1⟩
                  case round =>
                    obtain ⟨a, rfl, ha, oa, hba⟩ := hrel
                    by_cases hai : a < i + 1
                    · have i2 : ((x + a : Nat) : Int) < (x : Int) + ((i + 1 : Nat) : Int) := by omega
                      have i3 : ((x + a : Nat) : Int) < (W : Int) := by omega
                      have i4 : (0 : Int) ≤ ((x + a : Nat) : Int) := by omega
                      obtain ⟨u, hu⟩ : ∃ u, f[x + a]? = some u := ⟨_, List.getElem?_eq_getElem (by omega)⟩
                      have ulo := HF.out.lo _ _ hu
                      have uhi := HF.out.hi _ _ hu
                      have ac : wr.cell? ⟨g', x + a, none⟩ = some (.int .i64 u) := by
                        rw [oa.cellAt (x + a) (by omega)]
                        unfold ints
                        rw [List.getElem?_map, liftF_at f x a ((i + 1 : Nat) : Int) u hu]
                        rfl
                      have af := oa.frozenAt (x + a)
                      have hst := liftF_succ f x a ((i + 1 : Nat) : Int) u hu
                      obtain ⟨R1, R2⟩ := oa.stored (x + a) (.int .i64 (u + ((i + 1 : Nat) : Int)))
                      rw [← ints_set, ← hst] at R1
                      have HR1 := Lib.hid R1
                      have hbs : Below wo.heap.size wo (wr.setCell ⟨g', x + a, none⟩ (.int .i64 (u + ((i + 1 : Nat) : Int)))) := hba.setCell (p := ⟨g', x + a, none⟩) (own_lt oa).1 _
                      have HBS := Lib.hid hbs
                      clear hst hu R1 R2 oa hbs
                      go_wp2_with fail
                      go_roundw
                      case rel => exact ⟨a + 1, by congr 1, by omega, HR1.out, HBS.out⟩
                      case measure => simp [intOf]; omega
                    · obtain rfl : a = i + 1 := by omega
                      have i2 : ¬ ((x + (i + 1) : Nat) : Int) < (x : Int) + ((i + 1 : Nat) : Int) := by omega
                      obtain ⟨w2, rfl⟩ : ∃ w2 : World, w2 = wr := ⟨_, rfl⟩
                      have hbg : wo.heap.size ≤ w2.heap.size := hba.size
                      have rowL2 := own_keep HRL.out hba
                      have f0 := (hba.cell (p := ⟨gf, x, none⟩) hgfo.2).trans xo
                      have hgf2 : gf < w2.heap.size := by omega
                      have hm30 : L.length ≤ 30 := by omega
                      have HLN := Lib.hid (flat_len L)
                      have x0'' : (0 : Int) ≤ (x : Int) := by omega
                      obtain ⟨i0, hi, hz0, hz1, hz2⟩ := info_parts infoSq
                      have HBA := Lib.hid hba
                      have HOA := Lib.hid oa
                      clear hba oa xo
                      go_wp2_with fail
                      go_region_law (first
                        | (refine app_step rfl (.tmp 116) (.tmp 117) _ rfl wo.heap.size 85 i0 (.agg #[.int .i64 0, .int .i64 0, .int .i64 0]) 3 24 Try.underlying26 hi hz0 hz1 hz2 rfl (by decide) (.slice (some ⟨w2.heap.size, 0, none⟩) 0 0) 0 [] rfl (((World.ownsRow_lit w2 #[] 0 hbg (Nat.zero_le _) rfl).alloc _).drew) A L.length c (flat L) rfl HLN.out (src_own (((rowL2.alloc _).alloc _).drew)) (flat_one _) (app_room (Nat.zero_le _) hm30).1 (app_room (Nat.zero_le _) hm30).2 (by simp; omega) ?_
                           intro v1 w3 hown3 hgrow hat
                           have hb3 : Below w2.heap.size w2 w3 := ((((Below.refl _ w2).alloc (Nat.le_refl _) _).alloc (by simp) _).drew).grown hgrow (by simp; try omega) (fun kk hkk => by simp [Value.ownBlock] at hkk; omega)
                           have hv1 : ∀ kk, v1.ownBlock = some kk → w2.heap.size ≤ kk := fun kk hkk => by rcases hat with h | h <;> (rw [h] at hkk; simp [Value.ownBlock] at hkk; omega)
                           have z0 := hgrow.cell (a := ⟨w2.heap.size + 1, 0, none⟩) (v := .int .i64 x) (by simp [go_sem]) (by simp [Value.ownBlock])
                           have z1 := hgrow.cell (a := ⟨w2.heap.size + 1, 1, none⟩) (v := .int .i64 y') (by simp [go_sem]) (by simp [Value.ownBlock])
                           have z2 := hgrow.cell (a := ⟨w2.heap.size + 1, 2, none⟩) (v := .int .i64 ((i + 1 : Nat) : Int)) (by simp [go_sem]) (by simp [Value.ownBlock])
                           have y0 := (hb3.cell (p := ⟨gf, x, none⟩) hgf2).trans f0
                           have hs3 := hb3.size
                           simp only [List.nil_append, Nat.zero_add] at hown3
                           clear hgrow hat)
                        | (refine app_step rfl (.tmp 116) (.tmp 117) _ rfl wo.heap.size 85 i0 (.agg #[.int .i64 0, .int .i64 0, .int .i64 0]) 3 24 Try.underlying26 hi hz0 hz1 hz2 rfl (by decide) (.slice (some ⟨w2.heap.size + 1, 0, none⟩) 0 0) 0 [] rfl ((lit2 w2 hbg).drew) A L.length c (flat L) rfl HLN.out (src_own (((rowL2.alloc _).alloc _).drew)) (flat_one _) (app_room (Nat.zero_le _) hm30).1 (app_room (Nat.zero_le _) hm30).2 (by simp; omega) ?_
                           intro v1 w3 hown3 hgrow hat
                           have hb3 : Below w2.heap.size w2 w3 := ((((Below.refl _ w2).alloc (Nat.le_refl _) _).alloc (by simp) _).drew).grown hgrow (by simp; try omega) (fun kk hkk => by simp [Value.ownBlock] at hkk; omega)
                           have hv1 : ∀ kk, v1.ownBlock = some kk → w2.heap.size ≤ kk := fun kk hkk => by rcases hat with h | h <;> (rw [h] at hkk; simp [Value.ownBlock] at hkk; omega)
                           have z0 := hgrow.cell (a := ⟨w2.heap.size, 0, none⟩) (v := .int .i64 x) (by simp [go_sem]) (by simp [Value.ownBlock])
                           have z1 := hgrow.cell (a := ⟨w2.heap.size, 1, none⟩) (v := .int .i64 y') (by simp [go_sem]) (by simp [Value.ownBlock])
                           have z2 := hgrow.cell (a := ⟨w2.heap.size, 2, none⟩) (v := .int .i64 ((i + 1 : Nat) : Int)) (by simp [go_sem]) (by simp [Value.ownBlock])
                           have y0 := (hb3.cell (p := ⟨gf, x, none⟩) hgf2).trans f0
                           have hs3 := hb3.size
                           simp only [List.nil_append, Nat.zero_add] at hown3
                           clear hgrow hat)
                        | (refine app_step rfl (.tmp 116) (.tmp 117) _ rfl wo.heap.size 85 i0 (.agg #[.int .i64 0, .int .i64 0, .int .i64 0]) 3 24 Try.underlying26 hi hz0 hz1 hz2 rfl (by decide) (.slice (some ⟨w2.heap.size, 0, none⟩) 0 0) 0 [] rfl ((World.ownsRow_lit w2 #[] 0 hbg (Nat.zero_le _) rfl).drew) A L.length c (flat L) rfl HLN.out (src_own ((rowL2.alloc _).drew)) (flat_one _) (app_room (Nat.zero_le _) hm30).1 (app_room (Nat.zero_le _) hm30).2 (by simp; omega) ?_
                           intro v1 w3 hown3 hgrow hat
                           have hb3 : Below w2.heap.size w2 w3 := (((Below.refl _ w2).alloc (Nat.le_refl _) _).drew).grown hgrow (by simp; try omega) (fun kk hkk => by simp [Value.ownBlock] at hkk; omega)
                           have hv1 : ∀ kk, v1.ownBlock = some kk → w2.heap.size ≤ kk := fun kk hkk => by rcases hat with h | h <;> (rw [h] at hkk; simp [Value.ownBlock] at hkk; omega)
                           have y0 := (hb3.cell (p := ⟨gf, x, none⟩) hgf2).trans f0
                           have hs3 := hb3.size
                           simp only [List.nil_append, Nat.zero_add] at hown3
                           clear hgrow hat)
                        | (refine app_step rfl (.tmp 118) (.tmp 126) _ rfl wo.heap.size 85 i0 (.agg #[.int .i64 0, .int .i64 0, .int .i64 0]) 3 24 Try.underlying26 hi hz0 hz1 hz2 rfl (by decide) _ L.length (flat L) rfl (by first | exact hown3 | exact hown3.alloc _) _ 1 1 [.int .i64 x, .int .i64 y', .int .i64 ((i + 1 : Nat) : Int)] rfl rfl (.inr ⟨_, rfl, by first | exact new3 _ _ _ _ _ | exact src3 z0 z1 z2⟩) (one3 _ _ _) (app_room hm30 (by decide)).1 (app_room hm30 (by decide)).2 (by first | omega | (simp; omega)) ?_
                           intro v2 w4 hown4 hgrow4 hat4
                           have hb4 : Below w2.heap.size w2 w4 := by first | exact hb3.grown hgrow4 hs3 hv1 | exact (hb3.alloc hs3 _).grown hgrow4 (by simp; omega) hv1
                           clear hgrow4 hat4))
                      all_goals
                        obtain ⟨A2, c2, rfl⟩ := own_val hown4
                        have hs4 := hb4.size
                        have hB4 : Below wo.heap.size wo w4 := HBA.out.trans (hb4.mono hbg)
                        have hnx := HF.out.next HM.out HRM.out (s := i + 1) (by omega)
                        have hfn := free_next HF.out HM.out HRM.out (s := i + 1) (by omega)
                        have h11 : 1 * (i + 1) ≤ (i + 1) * (i + 1) := Nat.mul_le_mul_right _ (by omega)
                        have o4 : w4.ownsRow n0 85 3 (.slice A2 (L.length + 1) c2) (L.length + 1) (flat (L ++ [(⟨(x : Nat), y', ((i + 1 : Nat) : Int)⟩ : Sq)])) := by
                          rw [flat_app]; exact own_base (by simpa [flat] using hown4) hno
                        have hO4 := HOI.out.keep hB4 hno
                        have hBo4 := World.block_lt_of_cell? _ _ HOI.out.c
                        dsimp only at hBo4
                        have hsl4 := fun b (e : sr.ownBlock = some b) => (HOI.out.own.lt b e).2
                        have hgg := (own_lt HOA.out).1
                        have hcount := seg_count (stepF 6 H k f x y' (fills 6 H)) hir
                        have hDl : Ds.length = (segF (stepF 6 H k f x y' (fills 6 H)) (i + 1) (r - (i + 1))).length := by
                          have := congrArg List.length HDS.out
                          simpa using this
                        have hIH := HIK.out (liftF f x (i + 1) ((i + 1 : Nat) : Int)) (L ++ [(⟨(x : Nat), y', ((i + 1 : Nat) : Int)⟩ : Sq)]) A2 c2 (Cs ++ Ds) sr (more - 1) g' c' w0 w4 (by have := HCS.out; have h9 := HLE.out; rw [HND.out, hcount] at h9; rw [List.length_append]; omega) hnx.1 (by omega) (by rw [List.length_append]; simp only [List.length_cons, List.length_nil]; omega) (by omega) (by omega)
                          (fun M hM => by
                            have := HSO.out (⟨(x : Nat), y', ((i + 1 : Nat) : Int)⟩ :: M) (by rw [HND.out]; exact List.mem_flatMap.2 ⟨i, List.mem_range.2 (by omega), List.mem_map.2 ⟨M, hM, rfl⟩⟩)
                            simpa using this)
                          (own_base (own_keep HOA.out hb4) hno) (by omega) (fun e => by have := hsl4 g' e.symm; omega) (by rw [List.length_append]; exact o4)
                          (fun b hb => by
                            rw [List.length_append] at hb
                            have h1 := (hown4.lt b hb).1
                            exact ⟨by omega, fun e => by have := hsl4 b e.symm; omega⟩)
                          hO4 (by have h9 := HLE.out; rw [HND.out, hcount] at h9; rw [List.length_append]; have : (stepF 6 H k f x y' (fills 6 H) i).length = (fills 6 H k (liftF f x (i + 1) ((i + 1 : Nat) : Int))).length := by simp [stepF]
                                  omega)
                        rw [List.length_append] at hIH
                        rw [show ((more - 1 : Nat) : Int) = (more : Int) - 1 by omega] at hIH
                        have HIHH := Lib.hid hIH
                        have HB4 := Lib.hid hB4
                        have mb : (0 : Int) ≤ (more : Int) - 1 := by omega
                        clear hIH hO4 o4 hown4 hb4 hB4 hnx hfn h11 hcount hDl hsl4 y0 f0 rowL2
                        go_wp2_with fail
                        refine HIHH.out.mono ?_
                        rintro e w5 ⟨rfl, D2, s2, hm2, hO2, hK2, hs2⟩
                        have HO2 := Lib.hid hO2
                        have hK5 : KB Bo sl.ownBlock w.heap.size w w5 := (HKI.out.trans (KB.of_below (ob := none) HB4.out) HKI.out.size (fun b e => by cases e)).trans hK2 (by have := HKI.out.size; omega) HSR.out
                        have HK5 := Lib.hid hK5
                        have HM2 := Lib.hid hm2
                        have hs5 : ∀ b, s2.ownBlock = some b → sl.ownBlock = some b ∨ w.heap.size ≤ b := fun b hb => by
                          rcases hs2 b hb with h | h
                          · exact HSR.out b h
                          · right; have := HKI.out.size; omega
                        have HS5 := Lib.hid hs5
                        clear hO2 hK2 hs2 hm2 hK5 hs5
                        go_wp2_with fail
                        go_roundw
                        case rel =>
                          refine ⟨i, Ds ++ D2, s2, by omega, by go_num, ?_, by rw [← List.append_assoc]; exact HO2.out, HK5.out, HS5.out⟩
                          rw [show r - i = (r - (i + 1)) + 1 by omega, segF_succ, List.reverse_append, List.map_append, List.map_append, HDS.out, HM2.out]
                          congr 1
                          unfold stepF
                          rw [← List.map_reverse, List.map_map]
                          refine List.map_congr_left fun M _ => ?_
                          simp
                        case measure => simp [intOf] <;> omega
            · obtain rfl : p = y' := by simpa using huy
              go_wp2_with fail
              go_quiet (fail)
              go_wp2_with fail
              refine ⟨⟨u + 1, by congr 1, by omega, fun i h1 h2 => ?_, hbt.trans (below_drewN (Below.refl _ _) nq)⟩, by simp [intOf]; omega⟩
              by_cases e : i = x + u
              · rw [e]; exact HU.out
              · exact HLV.out i h1 (by omega)
          · have i2 : decide ((x : Int) + (u : Int) < (W : Int)) = false := by rw [decide_eq_false_iff_not]; omega
            go_wp2_with fail
            go_quiet (fail)
            have HN : ¬ (x + u < f.length ∧ f[x + u]? = some y') := fun h => by have := h.1; omega
            obtain ⟨wq, hwq⟩ : ∃ wq, wq = wr.drewN nq := ⟨_, rfl⟩
            have hbq : Below w.heap.size w wq := by rw [hwq]; exact hbt.trans (below_drewN (Below.refl _ _) nq)
            rw [← hwq]
            have hRM := RM.of_cols (H := H) (y := y') (x := x) (k := u) (by omega) hyhi HLV.out HN
            obtain ⟨r, hr⟩ : ∃ r : Nat, r = (min (u : Int) ((H : Int) - y')).toNat := ⟨_, rfl⟩
            rw [← hr] at hRM
            have hr0 : r ≠ 0 := fun e => by
              subst e
              have := HF.out.done HM.out hRM
              have h1 := HTF.out
              rw [HFR.out] at h1
              omega
            have hRi : min (u : Int) ((H : Int) - y') = (r : Int) := by omega
            have hrw := hRM.w
            have hrh := hRM.h
            have hND := fills_node (m := 6) (k := k) HM.out hRM hr0
            rw [show min r 6 = r by omega] at hND
            have HND := Lib.hid hND
            have HRM := Lib.hid hRM
            have HRI := Lib.hid hRi
            have xq : wq.cell? ⟨gf, x, none⟩ = some (.int .i64 y') := (hbq.cell (p := ⟨gf, x, none⟩) (show gf < _ by omega)).trans (HC.out x y' HY.out)
            obtain ⟨q, hq⟩ : ∃ q : Nat, q = min W H := ⟨_, rfl⟩
            have hq' : min (W : Int) (H : Int) = (q : Int) := by omega
            have hq1 : 1 ≤ q ∧ q ≤ 6 := by omega
            have hp1 : more * 1 ≤ more * q ∧ more * q ≤ more * 6 := ⟨Nat.mul_le_mul_left _ hq1.1, Nat.mul_le_mul_left _ hq1.2⟩
            have hp2 : more * q * 1 ≤ more * q * q ∧ more * q * q ≤ more * q * 6 := ⟨Nat.mul_le_mul_left _ hq1.1, Nat.mul_le_mul_left _ hq1.2⟩
            have wa : IntKind.i64.wrap ((more : Int) * (q : Int)) = (more : Int) * (q : Int) := IntWalk.i64_in _ (by rw [← Int.natCast_mul]; omega)
            have wb : IntKind.i64.wrap ((more : Int) * (q : Int) * (q : Int)) = (more : Int) * (q : Int) * (q : Int) := IntWalk.i64_in _ (by rw [← Int.natCast_mul, ← Int.natCast_mul]; omega)
            have wd : decide ((more : Int) * (q : Int) * (q : Int) < t) = false := by rw [decide_eq_false_iff_not, ← Int.natCast_mul, ← Int.natCast_mul]; have := HTF.out; omega
            have WA := Lib.hid wa
            have WB := Lib.hid wb
            have WD := Lib.hid wd
            have HQ' := Lib.hid hq'
            have HHQ := Lib.hid hq
            clear hwq hRM hRi hr hND xc hq hq' hp1 hp2 wa wb wd
            go_wp2_with fail
            refine (least_any _ _ _).mono ?_
            rintro e w' ⟨rfl, rfl⟩
            rw [HRI.out]
            go_wp2_with fail
            refine (least_any _ _ _).mono ?_
            rintro e w' ⟨rfl, rfl⟩
            rw [HQ'.out]
            have wa := WA.out
            have wb := WB.out
            have wd := WD.out
            go_wp2_with fail
            clear wa wb wd xq
            go_loopw [18] (fun v wr => ∃ (i : Nat) (Ds : List CV) (sr : Value), i ≤ r ∧ v = .int .i64 (i : Int) ∧ Ds.map (·.1) = ((segF (stepF 6 H k f x y' (fills 6 H)) i (r - i)).reverse).map (L ++ ·) ∧ OUT n0 Bo W H (Cs ++ Ds) sr w0 wr ∧ KB Bo sl.ownBlock w.heap.size w wr ∧ (∀ b, sr.ownBlock = some b → sl.ownBlock = some b ∨ w.heap.size ≤ b)) (fun v _ => (intOf v).toNat)
            case atStart => exact ⟨r, [], sl, Nat.le_refl _, rfl, by simp [segF], by rw [List.append_nil]; exact HOU.out.keep hbq hn0, KB.of_below hbq, fun b hb => .inl hb⟩
            case round =>
              obtain ⟨i, Ds, sr, hir, rfl, hDs, hOi, hKi, hsr⟩ := hrel
              have HDS := Lib.hid hDs
              clear hDs
              rcases i with _ | i
              · have i0' : ¬ (0 : Int) < ((0 : Nat) : Int) := by omega
                have HOI := Lib.hid hOi
                have HSR := Lib.hid hsr
                have HKI := Lib.hid hKi
                clear hOi hsr hKi
                go_wp2_with fail
                go_end0
                refine ⟨rfl, Ds, sr, ?_, HOI.out, HKI.out, HSR.out⟩
                rw [HDS.out, HND.out, ← segF_all, Nat.sub_zero]
              · have i1 : (0 : Int) < ((i + 1 : Nat) : Int) := by omega
                obtain ⟨wo, rfl⟩ : ∃ wo : World, wo = wr := ⟨_, rfl⟩
                have hgfN := own_lt hof
                have kf := hKi.block gf hgfN.2 hg1 hg2
                have rowF := own_of_block (C := wo) hof (fun k hk => by cases hk; exact kf)
                have rowL := own_of_block (C := wo) HOL.out (fun k hk => hKi.block k ((HOL.out.lt k hk).2) (hb1 k hk).1 (hb1 k hk).2)
                have hno : n0 ≤ wo.heap.size := Nat.le_trans hn0 hKi.size
                have hgfo := own_lt rowF
                have xo : wo.cell? ⟨gf, x, none⟩ = some (.int .i64 y') := by
                  rw [rowF.cellAt x (by omega)]; simp [ints, HY.out]
                have HOI := Lib.hid hOi
                have HSR := Lib.hid hsr
                have HKI := Lib.hid hKi
                have HRL := Lib.hid rowL
                have CO := l1Own_any (some ⟨gf, 0, none⟩) W cf f wo hfl hW1 (by omega) (ints_of_own rowF)
                clear hOi hsr hKi rowL rowF kf
                go_wp2_with fail
                refine CO.mono ?_
                rintro e w1 ⟨g', c', rfl, o1, hbo1⟩
                clear CO
                go_wp2_with fail
                go_loopw [20] (fun v wr => ∃ (a : Nat), v = .int .i64 ((x + a : Nat) : Int) ∧ a ≤ i + 1 ∧ wr.ownsRow wo.heap.size 3 1 (.slice (some ⟨g', 0, none⟩) W c') W (ints (liftF f x a ((i + 1 : Nat) : Int))) ∧ Below wo.heap.size wo wr) (fun v _ => x + (i + 1) - (intOf v).toNat)
                case atStart => exact ⟨0, rfl, by omega, by rw [liftF_zero]; exact o1, hbo1⟩
                case round =>
                  obtain ⟨a, rfl, ha, oa, hba⟩ := hrel
                  by_cases hai : a < i + 1
                  · have i2 : ((x + a : Nat) : Int) < (x : Int) + ((i + 1 : Nat) : Int) := by omega
                    have i3 : ((x + a : Nat) : Int) < (W : Int) := by omega
                    have i4 : (0 : Int) ≤ ((x + a : Nat) : Int) := by omega
                    obtain ⟨u, hu⟩ : ∃ u, f[x + a]? = some u := ⟨_, List.getElem?_eq_getElem (by omega)⟩
                    have ulo := HF.out.lo _ _ hu
                    have uhi := HF.out.hi _ _ hu
                    have ac : wr.cell? ⟨g', x + a, none⟩ = some (.int .i64 u) := by
                      rw [oa.cellAt (x + a) (by omega)]
                      unfold ints
                      rw [List.getElem?_map, liftF_at f x a ((i + 1 : Nat) : Int) u hu]
                      rfl
                    have af := oa.frozenAt (x + a)
                    have hst := liftF_succ f x a ((i + 1 : Nat) : Int) u hu
                    obtain ⟨R1, R2⟩ := oa.stored (x + a) (.int .i64 (u + ((i + 1 : Nat) : Int)))
                    rw [← ints_set, ← hst] at R1
                    have HR1 := Lib.hid R1
                    have hbs : Below wo.heap.size wo (wr.setCell ⟨g', x + a, none⟩ (.int .i64 (u + ((i + 1 : Nat) : Int)))) := hba.setCell (p := ⟨g', x + a, none⟩) (own_lt oa).1 _
                    have HBS := Lib.hid hbs
                    clear hst hu R1 R2 oa hbs
                    go_wp2_with fail
                    go_roundw
                    case rel => exact ⟨a + 1, by congr 1, by omega, HR1.out, HBS.out⟩
                    case measure => simp [intOf]; omega
                  · obtain rfl : a = i + 1 := by omega
                    have i2 : ¬ ((x + (i + 1) : Nat) : Int) < (x : Int) + ((i + 1 : Nat) : Int) := by omega
                    obtain ⟨w2, rfl⟩ : ∃ w2 : World, w2 = wr := ⟨_, rfl⟩
                    have hbg : wo.heap.size ≤ w2.heap.size := hba.size
                    have rowL2 := own_keep HRL.out hba
                    have f0 := (hba.cell (p := ⟨gf, x, none⟩) hgfo.2).trans xo
                    have hgf2 : gf < w2.heap.size := by omega
                    have hm30 : L.length ≤ 30 := by omega
                    have HLN := Lib.hid (flat_len L)
                    have x0'' : (0 : Int) ≤ (x : Int) := by omega
                    obtain ⟨i0, hi, hz0, hz1, hz2⟩ := info_parts infoSq
                    have HBA := Lib.hid hba
                    have HOA := Lib.hid oa
                    clear hba oa xo
                    go_wp2_with fail
                    go_region_law (first
                      | (refine app_step rfl (.tmp 116) (.tmp 117) _ rfl wo.heap.size 85 i0 (.agg #[.int .i64 0, .int .i64 0, .int .i64 0]) 3 24 Try.underlying26 hi hz0 hz1 hz2 rfl (by decide) (.slice (some ⟨w2.heap.size, 0, none⟩) 0 0) 0 [] rfl (((World.ownsRow_lit w2 #[] 0 hbg (Nat.zero_le _) rfl).alloc _).drew) A L.length c (flat L) rfl HLN.out (src_own (((rowL2.alloc _).alloc _).drew)) (flat_one _) (app_room (Nat.zero_le _) hm30).1 (app_room (Nat.zero_le _) hm30).2 (by simp; omega) ?_
                         intro v1 w3 hown3 hgrow hat
                         have hb3 : Below w2.heap.size w2 w3 := ((((Below.refl _ w2).alloc (Nat.le_refl _) _).alloc (by simp) _).drew).grown hgrow (by simp; try omega) (fun kk hkk => by simp [Value.ownBlock] at hkk; omega)
                         have hv1 : ∀ kk, v1.ownBlock = some kk → w2.heap.size ≤ kk := fun kk hkk => by rcases hat with h | h <;> (rw [h] at hkk; simp [Value.ownBlock] at hkk; omega)
                         have z0 := hgrow.cell (a := ⟨w2.heap.size + 1, 0, none⟩) (v := .int .i64 x) (by simp [go_sem]) (by simp [Value.ownBlock])
                         have z1 := hgrow.cell (a := ⟨w2.heap.size + 1, 1, none⟩) (v := .int .i64 y') (by simp [go_sem]) (by simp [Value.ownBlock])
                         have z2 := hgrow.cell (a := ⟨w2.heap.size + 1, 2, none⟩) (v := .int .i64 ((i + 1 : Nat) : Int)) (by simp [go_sem]) (by simp [Value.ownBlock])
                         have y0 := (hb3.cell (p := ⟨gf, x, none⟩) hgf2).trans f0
                         have hs3 := hb3.size
                         simp only [List.nil_append, Nat.zero_add] at hown3
                         clear hgrow hat)
                      | (refine app_step rfl (.tmp 116) (.tmp 117) _ rfl wo.heap.size 85 i0 (.agg #[.int .i64 0, .int .i64 0, .int .i64 0]) 3 24 Try.underlying26 hi hz0 hz1 hz2 rfl (by decide) (.slice (some ⟨w2.heap.size + 1, 0, none⟩) 0 0) 0 [] rfl ((lit2 w2 hbg).drew) A L.length c (flat L) rfl HLN.out (src_own (((rowL2.alloc _).alloc _).drew)) (flat_one _) (app_room (Nat.zero_le _) hm30).1 (app_room (Nat.zero_le _) hm30).2 (by simp; omega) ?_
                         intro v1 w3 hown3 hgrow hat
                         have hb3 : Below w2.heap.size w2 w3 := ((((Below.refl _ w2).alloc (Nat.le_refl _) _).alloc (by simp) _).drew).grown hgrow (by simp; try omega) (fun kk hkk => by simp [Value.ownBlock] at hkk; omega)
                         have hv1 : ∀ kk, v1.ownBlock = some kk → w2.heap.size ≤ kk := fun kk hkk => by rcases hat with h | h <;> (rw [h] at hkk; simp [Value.ownBlock] at hkk; omega)
                         have z0 := hgrow.cell (a := ⟨w2.heap.size, 0, none⟩) (v := .int .i64 x) (by simp [go_sem]) (by simp [Value.ownBlock])
                         have z1 := hgrow.cell (a := ⟨w2.heap.size, 1, none⟩) (v := .int .i64 y') (by simp [go_sem]) (by simp [Value.ownBlock])
                         have z2 := hgrow.cell (a := ⟨w2.heap.size, 2, none⟩) (v := .int .i64 ((i + 1 : Nat) : Int)) (by simp [go_sem]) (by simp [Value.ownBlock])
                         have y0 := (hb3.cell (p := ⟨gf, x, none⟩) hgf2).trans f0
                         have hs3 := hb3.size
                         simp only [List.nil_append, Nat.zero_add] at hown3
                         clear hgrow hat)
                      | (refine app_step rfl (.tmp 116) (.tmp 117) _ rfl wo.heap.size 85 i0 (.agg #[.int .i64 0, .int .i64 0, .int .i64 0]) 3 24 Try.underlying26 hi hz0 hz1 hz2 rfl (by decide) (.slice (some ⟨w2.heap.size, 0, none⟩) 0 0) 0 [] rfl ((World.ownsRow_lit w2 #[] 0 hbg (Nat.zero_le _) rfl).drew) A L.length c (flat L) rfl HLN.out (src_own ((rowL2.alloc _).drew)) (flat_one _) (app_room (Nat.zero_le _) hm30).1 (app_room (Nat.zero_le _) hm30).2 (by simp; omega) ?_
                         intro v1 w3 hown3 hgrow hat
                         have hb3 : Below w2.heap.size w2 w3 := (((Below.refl _ w2).alloc (Nat.le_refl _) _).drew).grown hgrow (by simp; try omega) (fun kk hkk => by simp [Value.ownBlock] at hkk; omega)
                         have hv1 : ∀ kk, v1.ownBlock = some kk → w2.heap.size ≤ kk := fun kk hkk => by rcases hat with h | h <;> (rw [h] at hkk; simp [Value.ownBlock] at hkk; omega)
                         have y0 := (hb3.cell (p := ⟨gf, x, none⟩) hgf2).trans f0
                         have hs3 := hb3.size
                         simp only [List.nil_append, Nat.zero_add] at hown3
                         clear hgrow hat)
                      | (refine app_step rfl (.tmp 118) (.tmp 126) _ rfl wo.heap.size 85 i0 (.agg #[.int .i64 0, .int .i64 0, .int .i64 0]) 3 24 Try.underlying26 hi hz0 hz1 hz2 rfl (by decide) _ L.length (flat L) rfl (by first | exact hown3 | exact hown3.alloc _) _ 1 1 [.int .i64 x, .int .i64 y', .int .i64 ((i + 1 : Nat) : Int)] rfl rfl (.inr ⟨_, rfl, by first | exact new3 _ _ _ _ _ | exact src3 z0 z1 z2⟩) (one3 _ _ _) (app_room hm30 (by decide)).1 (app_room hm30 (by decide)).2 (by first | omega | (simp; omega)) ?_
                         intro v2 w4 hown4 hgrow4 hat4
                         have hb4 : Below w2.heap.size w2 w4 := by first | exact hb3.grown hgrow4 hs3 hv1 | exact (hb3.alloc hs3 _).grown hgrow4 (by simp; omega) hv1
                         clear hgrow4 hat4))
                    all_goals
                      obtain ⟨A2, c2, rfl⟩ := own_val hown4
                      have hs4 := hb4.size
                      have hB4 : Below wo.heap.size wo w4 := HBA.out.trans (hb4.mono hbg)
                      have hnx := HF.out.next HM.out HRM.out (s := i + 1) (by omega)
                      have hfn := free_next HF.out HM.out HRM.out (s := i + 1) (by omega)
                      have h11 : 1 * (i + 1) ≤ (i + 1) * (i + 1) := Nat.mul_le_mul_right _ (by omega)
                      have o4 : w4.ownsRow n0 85 3 (.slice A2 (L.length + 1) c2) (L.length + 1) (flat (L ++ [(⟨(x : Nat), y', ((i + 1 : Nat) : Int)⟩ : Sq)])) := by
                        rw [flat_app]; exact own_base (by simpa [flat] using hown4) hno
                      have hO4 := HOI.out.keep hB4 hno
                      have hBo4 := World.block_lt_of_cell? _ _ HOI.out.c
                      dsimp only at hBo4
                      have hsl4 := fun b (e : sr.ownBlock = some b) => (HOI.out.own.lt b e).2
                      have hgg := (own_lt HOA.out).1
                      have hcount := seg_count (stepF 6 H k f x y' (fills 6 H)) hir
                      have hDl : Ds.length = (segF (stepF 6 H k f x y' (fills 6 H)) (i + 1) (r - (i + 1))).length := by
                        have := congrArg List.length HDS.out
                        simpa using this
                      have hIH := HIK.out (liftF f x (i + 1) ((i + 1 : Nat) : Int)) (L ++ [(⟨(x : Nat), y', ((i + 1 : Nat) : Int)⟩ : Sq)]) A2 c2 (Cs ++ Ds) sr (more - 1) g' c' w0 w4 (by have := HCS.out; have h9 := HLE.out; rw [HND.out, hcount] at h9; rw [List.length_append]; omega) hnx.1 (by omega) (by rw [List.length_append]; simp only [List.length_cons, List.length_nil]; omega) (by omega) (by omega)
                        (fun M hM => by
                          have := HSO.out (⟨(x : Nat), y', ((i + 1 : Nat) : Int)⟩ :: M) (by rw [HND.out]; exact List.mem_flatMap.2 ⟨i, List.mem_range.2 (by omega), List.mem_map.2 ⟨M, hM, rfl⟩⟩)
                          simpa using this)
                        (own_base (own_keep HOA.out hb4) hno) (by omega) (fun e => by have := hsl4 g' e.symm; omega) (by rw [List.length_append]; exact o4)
                        (fun b hb => by
                          rw [List.length_append] at hb
                          have h1 := (hown4.lt b hb).1
                          exact ⟨by omega, fun e => by have := hsl4 b e.symm; omega⟩)
                        hO4 (by have h9 := HLE.out; rw [HND.out, hcount] at h9; rw [List.length_append]; have : (stepF 6 H k f x y' (fills 6 H) i).length = (fills 6 H k (liftF f x (i + 1) ((i + 1 : Nat) : Int))).length := by simp [stepF]
                                omega)
                      rw [List.length_append] at hIH
                      rw [show ((more - 1 : Nat) : Int) = (more : Int) - 1 by omega] at hIH
                      have HIHH := Lib.hid hIH
                      have HB4 := Lib.hid hB4
                      have mb : (0 : Int) ≤ (more : Int) - 1 := by omega
                      clear hIH hO4 o4 hown4 hb4 hB4 hnx hfn h11 hcount hDl hsl4 y0 f0 rowL2
                      go_wp2_with fail
                      refine HIHH.out.mono ?_
                      rintro e w5 ⟨rfl, D2, s2, hm2, hO2, hK2, hs2⟩
                      have HO2 := Lib.hid hO2
                      have hK5 : KB Bo sl.ownBlock w.heap.size w w5 := (HKI.out.trans (KB.of_below (ob := none) HB4.out) HKI.out.size (fun b e => by cases e)).trans hK2 (by have := HKI.out.size; omega) HSR.out
                      have HK5 := Lib.hid hK5
                      have HM2 := Lib.hid hm2
                      have hs5 : ∀ b, s2.ownBlock = some b → sl.ownBlock = some b ∨ w.heap.size ≤ b := fun b hb => by
                        rcases hs2 b hb with h | h
                        · exact HSR.out b h
                        · right; have := HKI.out.size; omega
                      have HS5 := Lib.hid hs5
                      clear hO2 hK2 hs2 hm2 hK5 hs5
                      go_wp2_with fail
                      go_roundw
                      case rel =>
                        refine ⟨i, Ds ++ D2, s2, by omega, by go_num, ?_, by rw [← List.append_assoc]; exact HO2.out, HK5.out, HS5.out⟩
                        rw [show r - i = (r - (i + 1)) + 1 by omega, segF_succ, List.reverse_append, List.map_append, List.map_append, HDS.out, HM2.out]
                        congr 1
                        unfold stepF
                        rw [← List.map_reverse, List.map_map]
                        refine List.map_congr_left fun M _ => ?_
                        simp
                      case measure => simp [intOf] <;> omega
end Go.Proofs.Ytdpbjmdgjhleeaa
namespace Go.Proofs.Ytdpbjmdgjhleeaa
open Go.RowKit

/-- A list of cuts of one size, in memory of the call's own. -/
structure CL (n0 : Nat) (W H : Int) (Cs : List CV) (sl : Value) (w : World) : Prop where
  own : w.ownsRow n0 28 3 sl Cs.length (cutsV W H Cs)
  sq : ∀ x ∈ Cs, w.ownsRow n0 85 3 (.slice x.2.1 x.1.length x.2.2) x.1.length (flat x.1)
theorem CL.keep {n0 : Nat} {W H : Int} {Cs : List CV} {sl : Value} {w w' : World} (h : CL n0 W H Cs sl w) (hb : Below w.heap.size w w') : CL n0 W H Cs sl w' := ⟨own_keep h.own hb, fun x hx => own_keep (h.sq x hx) hb⟩
theorem cutsV_get (W H : Int) (Cs : List CV) (k : Nat) (x : CV) (h : Cs[k]? = some x) : (cutsV W H Cs)[k * 3]? = some (.int .i64 W) ∧ (cutsV W H Cs)[k * 3 + 1]? = some (.int .i64 H) ∧ (cutsV W H Cs)[k * 3 + 2]? = some (.slice x.2.1 x.1.length x.2.2) := by
  induction Cs generalizing k with
  | nil => simp at h
  | cons y r ih =>
    cases k with
    | zero => simp at h; subst h; simp [cutsV, cutV]
    | succ k =>
      have := ih k (by simpa using h)
      have e : cutsV W H (y :: r) = cutV W H y ++ cutsV W H r := by simp [cutsV]
      have l : (cutV W H y).length = 3 := rfl
      rw [e, List.getElem?_append_right (by rw [l]; omega), List.getElem?_append_right (by rw [l]; omega), List.getElem?_append_right (by rw [l]; omega), l]
      rw [show (k + 1) * 3 - 3 = k * 3 by omega, show (k + 1) * 3 + 1 - 3 = k * 3 + 1 by omega, show (k + 1) * 3 + 2 - 3 = k * 3 + 2 by omega]
      exact this
theorem cutsV_one (W H : Int) (Cs : List CV) : ∀ u ∈ cutsV W H Cs, u.oneCell' = true := by
  intro u hu
  obtain ⟨x, _, hu⟩ := List.mem_flatMap.1 hu
  exact oneCut W H x.2.1 x.1.length x.2.2 u hu
theorem room_c {n m : Nat} (h : n ≤ 1000000000) (k : m ≤ 1000000000) : n + m ≤ maxLen ∧ (n + m) * 40 ≤ 140737488355328 := ⟨by unfold maxLen; omega, by omega⟩
/-- The cells of a list's cut. -/
theorem CL.at {n0 g c : Nat} {W H : Int} {Cs : List CV} {w : World} (h : CL n0 W H Cs (.slice (some ⟨g, 0, none⟩) Cs.length c) w) {k : Nat} {x : CV} (hx : Cs[k]? = some x) :
    w.cell? ⟨g, k * 3, none⟩ = some (.int .i64 W) ∧ w.cell? ⟨g, k * 3 + 1, none⟩ = some (.int .i64 H) ∧ w.cell? ⟨g, k * 3 + 2, none⟩ = some (.slice x.2.1 x.1.length x.2.2) := by
  have hk := (List.getElem?_eq_some_iff.1 hx).1
  obtain ⟨h0, h1, h2⟩ := cutsV_get W H Cs k x hx
  exact ⟨(h.own.cellAt _ (by omega)).trans h0, (h.own.cellAt _ (by omega)).trans h1, (h.own.cellAt _ (by omega)).trans h2⟩
/-- What ctAll returns. -/
def RetCL (w : World) (W H : Int) (R : List (List Sq)) (e : Ending) (w' : World) : Prop :=
  ∃ A c Cs, e = .returned (.slice A Cs.length c) ∧ Cs.map (·.1) = R ∧ CL w.heap.size W H Cs (.slice A Cs.length c) w' ∧ Below w.heap.size w w'
theorem desc_at {Ds : List CV} (h : Ds.Pairwise fun a b => F.ltQ b.1 a.1) {k : Nat} {x : CV} (hx : Ds[k]? = some x) : ∀ q ∈ (Ds.take k).reverse, F.ltQ x.1 q.1 := by
  intro q hq
  rw [List.mem_reverse] at hq
  obtain ⟨j, hj, e⟩ := List.mem_iff_getElem.1 hq
  rw [List.length_take] at hj
  obtain ⟨hk, hxe⟩ := List.getElem?_eq_some_iff.1 hx
  rw [List.getElem_take] at e
  subst e
  rw [← hxe]
  exact List.pairwise_iff_getElem.1 h j k (by omega) hk (by omega)

theorem look_any (W H n0 Bo : Nat) (hW1 : 1 ≤ W) (hW : W ≤ 13) (hH1 : 1 ≤ H) (hH : H ≤ 6) (k : Nat) : ∀ (f : List Int) (L : List Sq) (A : Option Addr) (c : Nat) (Cs : List CV) (sl : Value) (more gf cf : Nat) (w0 w : World), Cs.length ≤ 1000000000 → Fl W H f → free W H f ≤ k → L.length + free W H f ≤ 30 → free W H f ≤ more → more ≤ 1000 → (∀ M ∈ fills 6 H k f, (L ++ M).Pairwise lt2) → w.ownsRow n0 3 1 (.slice (some ⟨gf, 0, none⟩) W cf) W (ints f) → gf ≠ Bo → some gf ≠ sl.ownBlock → w.ownsRow n0 85 3 (.slice A L.length c) L.length (flat L) → (∀ b, (Value.slice A L.length c).ownBlock = some b → b ≠ Bo ∧ some b ≠ sl.ownBlock) → OUT n0 Bo W H Cs sl w0 w → Cs.length + (fills 6 H k f).length ≤ 1000000000 →
      Calls Try.prog 113 #[.int .i64 W, .int .i64 H, .slice (some ⟨gf, 0, none⟩) W cf, .slice A L.length c, .int .i64 more, .pointer (some ⟨Bo, 0, none⟩)] w (LookPost n0 Bo W H Cs sl w0 w L (fills 6 H k f)) := by
  induction k with
  | zero => exact fun f L A c Cs sl more gf cf w0 w h => look_node W H n0 Bo hW1 hW hH1 hH 0 (fun k' e => by omega) f L A c Cs sl more gf cf w0 w h
  | succ k ih =>
    exact fun f L A c Cs sl more gf cf w0 w h => look_node W H n0 Bo hW1 hW hH1 hH (k + 1) (by
      intro k' e
      have e2 : k = k' := Nat.succ.inj e
      subst e2
      exact ih) f L A c Cs sl more gf cf w0 w h
set_option maxRecDepth 100000 in
set_option maxHeartbeats 16000000 in
theorem ctAll_any (W H : Nat) (hW : 1 ≤ W ∧ W ≤ 6) (hH : 1 ≤ H ∧ H ≤ 6) (hWH : W * H ≤ 16) (w : World) : Calls Try.prog 65 #[.int .i64 W, .int .i64 H] w (RetCL w W H (fills 6 H (W * H) (List.replicate W 0))) := by
  have hf0 : Fl W H (List.replicate W 0) := Fl.start W (by omega)
  have hfree : free W H (List.replicate W 0) = W * H := by
    unfold free
    have h0 : (List.replicate W (0 : Int)).sum = 0 := by
      clear hW hH hWH hf0
      induction W with | zero => rfl | succ n ih => simp [List.replicate_succ]
    rw [h0]
    have : ((W : Int) * (H : Int)) = ((W * H : Nat) : Int) := by simp
    omega
  have hfew : (fills 6 H (W * H) (List.replicate W 0)).length ≤ 65536 := by
    have := fills_few (m := 6) (k := W * H) hW.1 hf0
    rw [hfree] at this
    exact Nat.le_trans this (Nat.pow_le_pow_right (by decide) hWH)
  have hsorted : ∀ M ∈ fills 6 H (W * H) (List.replicate W 0), ([] ++ M : List Sq).Pairwise lt2 := fun M hM => by
    obtain ⟨x, y, r, hm, hr⟩ := hf0.rm hW.1
    exact (fills_sorted hW.1 hf0 hm M hM).1
  have hord := fills_order (m := 6) (k := W * H) hW.1 hf0
  have hlen : ∀ M ∈ fills 6 H (W * H) (List.replicate W 0), M.length ≤ 16 := fun M hM => by
    have := (fills_len hW.1 hf0 M hM).1
    omega
  obtain ⟨R, hR⟩ : ∃ R, fills 6 H (W * H) (List.replicate W 0) = R := ⟨_, rfl⟩
  obtain ⟨S, hS⟩ : ∃ S, W * H = S := ⟨_, rfl⟩
  have hmul : (W : Int) * (H : Int) = (S : Int) := by rw [← hS]; simp
  obtain ⟨i0, hi, hz0, hz1, hz2'⟩ := info_parts infoCut
  obtain ⟨j0, hj, hy0, hy1, hyb⟩ := info_parts infoInt
  have zl : (madeCells (Value.int .i64 0).cells (W * 1)).toList = ints (List.replicate W 0) := by
    rw [show (Value.int .i64 0).cells = #[.int .i64 0] from rfl, toList_madeCells_one]; simp [ints]
  obtain ⟨W1, hW1⟩ : ∃ W1, W1 = w.alloc (.cells #[.slice none 0 0] 38) := ⟨_, rfl⟩
  have hB1 : Below w.heap.size w W1 := by rw [hW1]; exact (Below.refl _ _).alloc (Nat.le_refl _) _
  have hz1' : W1.heap.size = w.heap.size + 1 := by rw [hW1]; simp
  have b0 : W1.cell? ⟨w.heap.size, 0, none⟩ = some (.slice none 0 0) := by rw [hW1]; simp [go_sem]
  have bf : W1.frozen? ⟨w.heap.size, 0, none⟩ = false := by rw [hW1]; exact World.frozen?_alloc_at _ _ _ _ rfl
  have C := look_any W H w.heap.size w.heap.size hW.1 (by omega) hH.1 hH.2 S (List.replicate W 0) [] none 0 [] (.slice none 0 0) S
  rw [← hS, hR] at C
  rw [hR] at hfew hsorted hord hlen
  rw [hS] at C hfree hWH
  have C' : ∀ (g3 : Nat) (w3 : World), w3.ownsRow w.heap.size 3 1 (.slice (some ⟨g3, 0, none⟩) W W) W (ints (List.replicate W 0)) → g3 ≠ w.heap.size → Below w.heap.size w w3 → w3.cell? ⟨w.heap.size, 0, none⟩ = some (.slice none 0 0) → w3.frozen? ⟨w.heap.size, 0, none⟩ = false →
      Calls Try.prog 113 #[.int .i64 W, .int .i64 H, .slice (some ⟨g3, 0, none⟩) W W, .slice none 0 0, .int .i64 S, .pointer (some ⟨w.heap.size, 0, none⟩)] w3 (LookPost w.heap.size w.heap.size W H [] (.slice none 0 0) w w3 [] R) := fun g3 w3 o3 hne hb3 c3 f3 =>
    C g3 W w w3 (by simp) hf0 (by omega) (by simp; omega) (by omega) (by omega) hsorted o3 hne (fun e => by cases e) (World.ownsRow_nil _ _ _ _) (fun b hb => by cases hb)
      ⟨c3, f3, Nat.le_refl _, World.ownsRow_nil _ _ _ _, (fun e => by cases e), (fun x hx => by simp at hx), (fun x hx => by simp at hx), List.Pairwise.nil, hb3⟩ (by simp; omega)
  have HCC := Lib.hid C'
  have HZL := Lib.hid zl
  have HS := Lib.hid hS
  have HOR := Lib.hid hord
  have HLN := Lib.hid hlen
  have HFW := Lib.hid hfew
  have HRR := Lib.hid (show R = fills 6 H (W * H) (List.replicate W 0) from hR.symm)
  clear C C' zl hS hord hlen hfew hfree hf0 hsorted hR
  go_enter Try.func65, Try.ntmps65
  go_wp2_with (at_make; refine wpList_make_full _ rfl _ _ 49 rfl w.heap.size 3 j0 (.int .i64 0) 1 Try.underlying49 hj hy0 hy1 .i64 .i64 (W : Int) (W : Int) W rfl rfl rfl rfl (by rw [hyb]; omega) (by unfold maxLen; omega) (by simp) ?_; intro w3 hown3 hg3; have hs3 := hg3.size)
  rw [← hW1] at hg3 hs3
  rw [HZL.out, ← hW1, hz1'] at hown3
  have hB3 : Below W1.heap.size W1 w3 := (Below.refl _ _).grown hg3 (Nat.le_refl _) (fun k e => by cases e)
  have lt3 := own_lt hown3
  have c3 := (hB3.cell (p := ⟨w.heap.size, 0, none⟩) (by show w.heap.size < _; omega)).trans b0
  have f3 := (hB3.frozen (p := ⟨w.heap.size, 0, none⟩) (by show w.heap.size < _; omega)).trans bf
  (with_reducible refine (HCC.out _ w3 hown3 (by omega) (hB1.trans (hB3.mono (by omega))) c3 f3).mono ?_)
  rintro e w5 ⟨rfl, Ds, sl, hm, hO, _, _⟩
  rw [List.nil_append] at hO
  have hDs : Ds.map (·.1) = R.reverse := by rw [hm]; simp
  have hlD : Ds.length ≤ 65536 := by
    have := congrArg List.length hDs
    simp only [List.length_map, List.length_reverse] at this
    have := HFW.out
    omega
  have hDl : ∀ x ∈ Ds, x.1.length ≤ 16 := fun x hx => HLN.out x.1 (by
    rw [← List.mem_reverse, ← hDs]; exact List.mem_map_of_mem hx)
  have hdesc : Ds.Pairwise fun a b => F.ltQ b.1 a.1 := by
    have h1 : (R.reverse).Pairwise fun a b => F.ltQ b a := List.pairwise_reverse.2 HOR.out
    rw [← hDs, List.pairwise_map] at h1
    exact h1
  obtain ⟨A9, c9, rfl⟩ := own_val hO.own
  have oc := hO.c
  have hN5 : w.heap.size < w5.heap.size := World.block_lt_of_cell? _ _ oc
  have HCL : Hid (CL w.heap.size W H Ds (.slice A9 Ds.length c9) w5) := Lib.hid ⟨hO.own, hO.sq⟩
  have HB5 := Lib.hid hO.b
  have HDL := Lib.hid hDl
  have HDE := Lib.hid hdesc
  have HDS := Lib.hid hDs
  obtain ⟨g, hg⟩ : ∃ g, g = w5.heap.size := ⟨_, rfl⟩
  have hBg := Lib.hid hg
  have hgN : w.heap.size ≤ g := by omega
  clear hm hDs hDl hdesc hO hg hB3 c3 f3 b0 bf hB1 hg3 hs3 hown3 lt3 hW1 hz1'
  go_wp2_with fail
  clear oc
  go_loopw [6, 21] (fun v i wr => ∃ (k : Nat) (Rs : List CV), k ≤ Ds.length ∧ i = .int .i64 (k : Int) ∧ Rs = (Ds.take k).reverse ∧ wr.ownsRow g 28 3 v k (cutsV W H Rs) ∧ (k = 0 → v = .slice none 0 0) ∧ Below g w5 wr) (fun _ i _ => Ds.length - (intOf i).toNat)
  case atStart => exact ⟨0, [], Nat.zero_le _, rfl, by simp, World.ownsRow_nil _ _ _ _, fun _ => rfl, Below.refl _ _⟩
  case round =>
    obtain ⟨k, Rs, hk, rfl, hRs, hown, hnl, hbr⟩ := hrel
    have hgr : g ≤ wr.heap.size := by have := hbr.size; rw [hBg.out]; exact this
    by_cases hlt : k < Ds.length
    · obtain ⟨x, hx⟩ : ∃ x, Ds[k]? = some x := ⟨_, List.getElem?_eq_getElem hlt⟩
      have hxm : x ∈ Ds := List.mem_of_getElem? hx
      obtain ⟨g9, rfl⟩ := own_form HCL.out.own (show 0 < Ds.length by omega)
      have hg9 := own_lt HCL.out.own
      have hg9g : g9 < g := by rw [hBg.out]; exact hg9.2
      obtain ⟨d0, d1, d2⟩ := HCL.out.at hx
      have c0 := (hbr.cell (p := ⟨g9, k * 3, none⟩) hg9g).trans d0
      have c1 := (hbr.cell (p := ⟨g9, k * 3 + 1, none⟩) hg9g).trans d1
      have c2 := (hbr.cell (p := ⟨g9, k * 3 + 2, none⟩) hg9g).trans d2
      have hxl := HDL.out x hxm
      have hxs : SqsAt w5 g x.2.1 x.1 := by rw [hBg.out]; exact sqs_of_own (HCL.out.sq x hxm)
      have hlq := desc_at HDE.out hx
      rw [← hRs] at hlq
      have HLQ := Lib.hid hlq
      have HXS := Lib.hid hxs
      have HX := Lib.hid hx
      have HR := Lib.hid hRs
      have k1' : (k : Int) < (Ds.length : Int) := by omega
      have k0' : (0 : Int) ≤ (k : Int) := by omega
      clear d0 d1 d2 hlq hxs hx hRs hg9
      rcases Nat.eq_zero_or_pos k with hk0 | hk0
      · have hv := hnl hk0
        subst hv
        subst hk0
        clear hnl hown
        simp only [Nat.zero_mul, Nat.zero_add] at c0 c1 c2
        go_wp2_with fail
        obtain ⟨wo, rfl⟩ : ∃ wo : World, wo = wr := ⟨_, rfl⟩
        obtain ⟨W2, hW2⟩ : ∃ W2, W2 = wo.alloc (.cells #[.int .i64 W, .int .i64 H, .slice x.2.1 x.1.length x.2.2] 28) := ⟨_, rfl⟩
        have hB2 : Below wo.heap.size wo W2 := by rw [hW2]; exact (Below.refl _ _).alloc (Nat.le_refl _) _
        have f0 : W2.cell? ⟨wo.heap.size, 0, none⟩ = some (.int .i64 W) := by rw [hW2]; simp
        have f1 : W2.cell? ⟨wo.heap.size, 1, none⟩ = some (.int .i64 H) := by rw [hW2]; simp
        have f2 : W2.cell? ⟨wo.heap.size, 2, none⟩ = some (.slice x.2.1 x.1.length x.2.2) := by rw [hW2]; simp
        have hz2'' : wo.heap.size < W2.heap.size := by rw [hW2]; simp
        rw [← hW2]
        clear hW2 c0 c1 c2
        refine wp_loop_rounds 1 ?_
        rw [rounds_succ]
        go_wp2_with fail
        refine wp_region_sub W2.heap.size (by kernel_rfl) (by kernel_rfl) ?_
        repeat (first | go_big_quiet_step (fail) | quiet_step (fail))
        refine wpQuiet_nil ?_
        rintro w2 ⟨uu, hu⟩; have hb2 := uu.ok; rw [← hu] at hb2; clear hu uu
        have f0 := (hb2.cell (p := ⟨wo.heap.size, 0, none⟩) hz2'').trans f0
        have f1 := (hb2.cell (p := ⟨wo.heap.size, 1, none⟩) hz2'').trans f1
        have f2 := (hb2.cell (p := ⟨wo.heap.size, 2, none⟩) hz2'').trans f2
        have hz2 : wo.heap.size < w2.heap.size := by have := hb2.size; omega
        have hB2 := (hbr.trans (hB2.mono hgr)).trans (hb2.mono (by omega))
        have hbg : g ≤ w2.heap.size := by omega
        clear hb2 hz2''
        go_wp2_with fail
        go_region_law (first
        | (refine app_step rfl (.tmp 40) (.tmp 43) _ rfl g 28 i0 (.agg #[.int .i64 0, .int .i64 0, .slice none 0 0]) 3 40 Try.underlying38 hi hz0 hz1 hz2' rfl (by decide) (.slice (some ⟨w2.heap.size, 0, none⟩) 0 0) 0 [] rfl (((World.ownsRow_lit w2 #[] 0 hbg (Nat.zero_le _) rfl).alloc _).drew) none 0 0 [] rfl rfl (.inl ⟨rfl, rfl, rfl, rfl⟩) (fun u hu => by simp at hu) (room_c (by omega) (by decide)).1 (room_c (by omega) (by decide)).2 (by simp; omega) ?_
           intro v1 w3 hown3 hgrow hat
           have hb3 : Below w2.heap.size w2 w3 := ((((Below.refl _ w2).alloc (Nat.le_refl _) _).alloc (by simp) _).drew).grown hgrow (by simp; try omega) (fun kk hkk => by simp [Value.ownBlock] at hkk; omega)
           have hv1 : ∀ kk, v1.ownBlock = some kk → w2.heap.size ≤ kk := fun kk hkk => by rcases hat with h | h <;> (rw [h] at hkk; simp [Value.ownBlock] at hkk; omega)
           have z0 := hgrow.cell (a := ⟨w2.heap.size + 1, 0, none⟩) (v := .int .i64 W) (by simp [go_sem]) (by simp [Value.ownBlock])
           have z1 := hgrow.cell (a := ⟨w2.heap.size + 1, 1, none⟩) (v := .int .i64 H) (by simp [go_sem]) (by simp [Value.ownBlock])
           have z2 := hgrow.cell (a := ⟨w2.heap.size + 1, 2, none⟩) (v := .slice x.2.1 x.1.length x.2.2) (by simp [go_sem]) (by simp [Value.ownBlock])
           have y0 := (hb3.cell (p := ⟨wo.heap.size, 0, none⟩) hz2).trans f0
           have y1 := (hb3.cell (p := ⟨wo.heap.size, 1, none⟩) hz2).trans f1
           have y2 := (hb3.cell (p := ⟨wo.heap.size, 2, none⟩) hz2).trans f2
           have hs3 := hb3.size
           simp only [List.append_nil, Nat.zero_add] at hown3
           clear hgrow hat)
        | (refine app_step rfl (.tmp 40) (.tmp 43) _ rfl g 28 i0 (.agg #[.int .i64 0, .int .i64 0, .slice none 0 0]) 3 40 Try.underlying38 hi hz0 hz1 hz2' rfl (by decide) (.slice (some ⟨w2.heap.size + 1, 0, none⟩) 0 0) 0 [] rfl ((lit2 w2 hbg).drew) none 0 0 [] rfl rfl (.inl ⟨rfl, rfl, rfl, rfl⟩) (fun u hu => by simp at hu) (room_c (by omega) (by decide)).1 (room_c (by omega) (by decide)).2 (by simp; omega) ?_
           intro v1 w3 hown3 hgrow hat
           have hb3 : Below w2.heap.size w2 w3 := ((((Below.refl _ w2).alloc (Nat.le_refl _) _).alloc (by simp) _).drew).grown hgrow (by simp; try omega) (fun kk hkk => by simp [Value.ownBlock] at hkk; omega)
           have hv1 : ∀ kk, v1.ownBlock = some kk → w2.heap.size ≤ kk := fun kk hkk => by rcases hat with h | h <;> (rw [h] at hkk; simp [Value.ownBlock] at hkk; omega)
           have z0 := hgrow.cell (a := ⟨w2.heap.size, 0, none⟩) (v := .int .i64 W) (by simp [go_sem]) (by simp [Value.ownBlock])
           have z1 := hgrow.cell (a := ⟨w2.heap.size, 1, none⟩) (v := .int .i64 H) (by simp [go_sem]) (by simp [Value.ownBlock])
           have z2 := hgrow.cell (a := ⟨w2.heap.size, 2, none⟩) (v := .slice x.2.1 x.1.length x.2.2) (by simp [go_sem]) (by simp [Value.ownBlock])
           have y0 := (hb3.cell (p := ⟨wo.heap.size, 0, none⟩) hz2).trans f0
           have y1 := (hb3.cell (p := ⟨wo.heap.size, 1, none⟩) hz2).trans f1
           have y2 := (hb3.cell (p := ⟨wo.heap.size, 2, none⟩) hz2).trans f2
           have hs3 := hb3.size
           simp only [List.append_nil, Nat.zero_add] at hown3
           clear hgrow hat)
        | (refine app_step rfl (.tmp 40) (.tmp 43) _ rfl g 28 i0 (.agg #[.int .i64 0, .int .i64 0, .slice none 0 0]) 3 40 Try.underlying38 hi hz0 hz1 hz2' rfl (by decide) (.slice (some ⟨w2.heap.size, 0, none⟩) 0 0) 0 [] rfl ((World.ownsRow_lit w2 #[] 0 hbg (Nat.zero_le _) rfl).drew) none 0 0 [] rfl rfl (.inl ⟨rfl, rfl, rfl, rfl⟩) (fun u hu => by simp at hu) (room_c (by omega) (by decide)).1 (room_c (by omega) (by decide)).2 (by simp; omega) ?_
           intro v1 w3 hown3 hgrow hat
           have hb3 : Below w2.heap.size w2 w3 := (((Below.refl _ w2).alloc (Nat.le_refl _) _).drew).grown hgrow (by simp; try omega) (fun kk hkk => by simp [Value.ownBlock] at hkk; omega)
           have hv1 : ∀ kk, v1.ownBlock = some kk → w2.heap.size ≤ kk := fun kk hkk => by rcases hat with h | h <;> (rw [h] at hkk; simp [Value.ownBlock] at hkk; omega)
           have y0 := (hb3.cell (p := ⟨wo.heap.size, 0, none⟩) hz2).trans f0
           have y1 := (hb3.cell (p := ⟨wo.heap.size, 1, none⟩) hz2).trans f1
           have y2 := (hb3.cell (p := ⟨wo.heap.size, 2, none⟩) hz2).trans f2
           have hs3 := hb3.size
           simp only [List.append_nil, Nat.zero_add] at hown3
           clear hgrow hat)
        | (refine app_step rfl (.tmp 44) (.tmp 46) _ rfl g 28 i0 (.agg #[.int .i64 0, .int .i64 0, .slice none 0 0]) 3 40 Try.underlying38 hi hz0 hz1 hz2' rfl (by decide) _ 0 [] rfl (by first | exact hown3 | exact hown3.alloc _) _ 1 1 [.int .i64 W, .int .i64 H, .slice x.2.1 x.1.length x.2.2] rfl rfl (.inr ⟨_, rfl, by first | exact new3 _ _ _ _ _ | exact src3 z0 z1 z2⟩) (oneCut _ _ _ _ _) (room_c (by omega) (by decide)).1 (room_c (by omega) (by decide)).2 (by first | omega | (simp; omega)) ?_
           intro v2 w4 hown4 hgrow4 hat4
           have hb4 : Below w2.heap.size w2 w4 := by first | exact hb3.grown hgrow4 hs3 hv1 | exact (hb3.alloc hs3 _).grown hgrow4 (by simp; omega) hv1
           clear hgrow4 hat4))
        all_goals
          have hs4 := hb4.size
          clear y0 y1 y2 f0 f1 f2
          go_wp2_with (at_builtin; refine wpList_append_own_none rfl (.tmp 48) (.tmp 51) _ rfl g 28 i0 3 Try.underlying38 hi v2 1 _ rfl hown4 rfl ?_)
          go_roundw
          case rel => exact ⟨1, [x], by omega, by go_num, by rw [List.take_add_one, HX.out]; simp, by simpa [cutsV, cutV] using hown4, fun h => by omega, hB2.trans (hb4.mono hbg)⟩
          case measure => simp [intOf]; omega
      · obtain ⟨A6, c6, rfl⟩ := own_val hown
        obtain ⟨g6, rfl⟩ := own_form hown hk0
        clear hnl
        have hcap := own_cap hown
        go_wp2_with fail
        obtain ⟨wo, rfl⟩ : ∃ wo : World, wo = wr := ⟨_, rfl⟩
        obtain ⟨W2, hW2⟩ : ∃ W2, W2 = wo.alloc (.cells #[.int .i64 W, .int .i64 H, .slice x.2.1 x.1.length x.2.2] 28) := ⟨_, rfl⟩
        have hsz : wo.heap.size + 1 = W2.heap.size := by rw [hW2]; simp
        have hB2 : Below wo.heap.size wo W2 := by rw [hW2]; exact (Below.refl _ _).alloc (Nat.le_refl _) _
        have S0 : W2.cell? ⟨wo.heap.size, 0, none⟩ = some (.int .i64 W) := by rw [hW2]; simp
        have S1 : W2.cell? ⟨wo.heap.size, 1, none⟩ = some (.int .i64 H) := by rw [hW2]; simp
        have S2 : W2.cell? ⟨wo.heap.size, 2, none⟩ = some (.slice x.2.1 x.1.length x.2.2) := by rw [hW2]; simp
        have hown1 := own_keep hown hB2
        have hRl : Rs.length = k := by rw [HR.out, List.length_reverse, List.length_take]; omega
        have HRL := Lib.hid hRl
        rw [← hW2]
        clear hW2 c0 c1 c2 hRl
        go_loopw [9] (fun kv wi => ∃ m : Nat, m ≤ k ∧ kv = .int .i64 (m : Int) ∧ Below (wo.heap.size + 1) W2 wi) (fun kv _ => (intOf kv).toNat)
        case atStart => exact ⟨k, Nat.le_refl _, rfl, Below.refl _ _⟩
        case round =>
          obtain ⟨m, hm, rfl, hbi⟩ := hrel
          have howni := own_below hown1 hbi (fun kk hkk => by have := (hown.lt kk hkk).2; omega)
          have F0 := (hbi.cell (p := ⟨wo.heap.size, 0, none⟩) (Nat.lt_succ_self _)).trans S0
          have F1 := (hbi.cell (p := ⟨wo.heap.size, 1, none⟩) (Nat.lt_succ_self _)).trans S1
          have F2 := (hbi.cell (p := ⟨wo.heap.size, 2, none⟩) (Nat.lt_succ_self _)).trans S2
          have hzi : wo.heap.size < wr.heap.size := by have := hbi.size; omega
          have hBi : Below g w5 wr := (hbr.trans (hB2.mono hgr)).trans (hbi.mono (by omega))
          rcases Nat.eq_zero_or_pos m with h0 | h0
          · subst h0
            rw [show ((0 : Nat) : Int) = 0 from rfl]
            have hB0 := Lib.hid hBi
            go_wp2_with fail
            refine wp_region_sub (wo.heap.size + 1) (by kernel_rfl) (by kernel_rfl) ?_
            repeat (first | go_big_quiet_step (fail) | quiet_step (fail))
            refine wpQuiet_nil ?_
            rintro w2 ⟨uu, hu⟩; have hb2 := uu.ok; rw [← hu] at hb2; clear hu uu
            have own2 := own_below howni hb2 (fun kk hkk => by have := (hown.lt kk hkk).2; omega)
            have f0 := (hb2.cell (p := ⟨wo.heap.size, 0, none⟩) (Nat.lt_succ_self _)).trans F0
            have f1 := (hb2.cell (p := ⟨wo.heap.size, 1, none⟩) (Nat.lt_succ_self _)).trans F1
            have f2 := (hb2.cell (p := ⟨wo.heap.size, 2, none⟩) (Nat.lt_succ_self _)).trans F2
            have hz2 : wo.heap.size < w2.heap.size := by have := hb2.size; omega
            have hB2 := hBi.trans (hb2.mono (by omega))
            have hbg : g ≤ w2.heap.size := by omega
            clear F0 F1 F2 S0 S1 S2 hbi hb2 hown1 howni hown hBi
            go_wp2_with fail
            go_region_law (first
            | (refine app_step rfl (.tmp 40) (.tmp 43) _ rfl g 28 i0 (.agg #[.int .i64 0, .int .i64 0, .slice none 0 0]) 3 40 Try.underlying38 hi hz0 hz1 hz2' rfl (by decide) (.slice (some ⟨w2.heap.size, 0, none⟩) 0 0) 0 [] rfl (((World.ownsRow_lit w2 #[] 0 hbg (Nat.zero_le _) rfl).alloc _).drew) (some ⟨g6, 0, none⟩) 0 c6 [] rfl rfl (.inr ⟨_, rfl, fun j u hu => by simp at hu⟩) (fun u hu => by simp at hu) (room_c (by omega) (by decide)).1 (room_c (by omega) (by decide)).2 (by simp; omega) ?_
               intro v1 w3 hown3 hgrow hat
               have hb3 : Below w2.heap.size w2 w3 := ((((Below.refl _ w2).alloc (Nat.le_refl _) _).alloc (by simp) _).drew).grown hgrow (by simp; try omega) (fun kk hkk => by simp [Value.ownBlock] at hkk; omega)
               have hv1 : ∀ kk, v1.ownBlock = some kk → w2.heap.size ≤ kk := fun kk hkk => by rcases hat with h | h <;> (rw [h] at hkk; simp [Value.ownBlock] at hkk; omega)
               have z0 := hgrow.cell (a := ⟨w2.heap.size + 1, 0, none⟩) (v := .int .i64 W) (by simp [go_sem]) (by simp [Value.ownBlock])
               have z1 := hgrow.cell (a := ⟨w2.heap.size + 1, 1, none⟩) (v := .int .i64 H) (by simp [go_sem]) (by simp [Value.ownBlock])
               have z2 := hgrow.cell (a := ⟨w2.heap.size + 1, 2, none⟩) (v := .slice x.2.1 x.1.length x.2.2) (by simp [go_sem]) (by simp [Value.ownBlock])
               have y0 := (hb3.cell (p := ⟨wo.heap.size, 0, none⟩) hz2).trans f0
               have y1 := (hb3.cell (p := ⟨wo.heap.size, 1, none⟩) hz2).trans f1
               have y2 := (hb3.cell (p := ⟨wo.heap.size, 2, none⟩) hz2).trans f2
               have hs3 := hb3.size
               simp only [List.append_nil, Nat.zero_add] at hown3
               clear hgrow hat)
            | (refine app_step rfl (.tmp 40) (.tmp 43) _ rfl g 28 i0 (.agg #[.int .i64 0, .int .i64 0, .slice none 0 0]) 3 40 Try.underlying38 hi hz0 hz1 hz2' rfl (by decide) (.slice (some ⟨w2.heap.size + 1, 0, none⟩) 0 0) 0 [] rfl ((lit2 w2 hbg).drew) (some ⟨g6, 0, none⟩) 0 c6 [] rfl rfl (.inr ⟨_, rfl, fun j u hu => by simp at hu⟩) (fun u hu => by simp at hu) (room_c (by omega) (by decide)).1 (room_c (by omega) (by decide)).2 (by simp; omega) ?_
               intro v1 w3 hown3 hgrow hat
               have hb3 : Below w2.heap.size w2 w3 := ((((Below.refl _ w2).alloc (Nat.le_refl _) _).alloc (by simp) _).drew).grown hgrow (by simp; try omega) (fun kk hkk => by simp [Value.ownBlock] at hkk; omega)
               have hv1 : ∀ kk, v1.ownBlock = some kk → w2.heap.size ≤ kk := fun kk hkk => by rcases hat with h | h <;> (rw [h] at hkk; simp [Value.ownBlock] at hkk; omega)
               have z0 := hgrow.cell (a := ⟨w2.heap.size, 0, none⟩) (v := .int .i64 W) (by simp [go_sem]) (by simp [Value.ownBlock])
               have z1 := hgrow.cell (a := ⟨w2.heap.size, 1, none⟩) (v := .int .i64 H) (by simp [go_sem]) (by simp [Value.ownBlock])
               have z2 := hgrow.cell (a := ⟨w2.heap.size, 2, none⟩) (v := .slice x.2.1 x.1.length x.2.2) (by simp [go_sem]) (by simp [Value.ownBlock])
               have y0 := (hb3.cell (p := ⟨wo.heap.size, 0, none⟩) hz2).trans f0
               have y1 := (hb3.cell (p := ⟨wo.heap.size, 1, none⟩) hz2).trans f1
               have y2 := (hb3.cell (p := ⟨wo.heap.size, 2, none⟩) hz2).trans f2
               have hs3 := hb3.size
               simp only [List.append_nil, Nat.zero_add] at hown3
               clear hgrow hat)
            | (refine app_step rfl (.tmp 40) (.tmp 43) _ rfl g 28 i0 (.agg #[.int .i64 0, .int .i64 0, .slice none 0 0]) 3 40 Try.underlying38 hi hz0 hz1 hz2' rfl (by decide) (.slice (some ⟨w2.heap.size, 0, none⟩) 0 0) 0 [] rfl ((World.ownsRow_lit w2 #[] 0 hbg (Nat.zero_le _) rfl).drew) (some ⟨g6, 0, none⟩) 0 c6 [] rfl rfl (.inr ⟨_, rfl, fun j u hu => by simp at hu⟩) (fun u hu => by simp at hu) (room_c (by omega) (by decide)).1 (room_c (by omega) (by decide)).2 (by simp; omega) ?_
               intro v1 w3 hown3 hgrow hat
               have hb3 : Below w2.heap.size w2 w3 := (((Below.refl _ w2).alloc (Nat.le_refl _) _).drew).grown hgrow (by simp; try omega) (fun kk hkk => by simp [Value.ownBlock] at hkk; omega)
               have hv1 : ∀ kk, v1.ownBlock = some kk → w2.heap.size ≤ kk := fun kk hkk => by rcases hat with h | h <;> (rw [h] at hkk; simp [Value.ownBlock] at hkk; omega)
               have y0 := (hb3.cell (p := ⟨wo.heap.size, 0, none⟩) hz2).trans f0
               have y1 := (hb3.cell (p := ⟨wo.heap.size, 1, none⟩) hz2).trans f1
               have y2 := (hb3.cell (p := ⟨wo.heap.size, 2, none⟩) hz2).trans f2
               have hs3 := hb3.size
               simp only [List.append_nil, Nat.zero_add] at hown3
               clear hgrow hat)
            | (refine app_step rfl (.tmp 44) (.tmp 46) _ rfl g 28 i0 (.agg #[.int .i64 0, .int .i64 0, .slice none 0 0]) 3 40 Try.underlying38 hi hz0 hz1 hz2' rfl (by decide) _ 0 [] rfl (by first | exact hown3 | exact hown3.alloc _) _ 1 1 [.int .i64 W, .int .i64 H, .slice x.2.1 x.1.length x.2.2] rfl rfl (.inr ⟨_, rfl, by first | exact new3 _ _ _ _ _ | exact src3 z0 z1 z2⟩) (oneCut _ _ _ _ _) (room_c (by omega) (by decide)).1 (room_c (by omega) (by decide)).2 (by first | omega | (simp; omega)) ?_
               intro v2 w4 hown4 hgrow4 hat4
               have hb4 : Below w2.heap.size w2 w4 := by first | exact hb3.grown hgrow4 hs3 hv1 | exact (hb3.alloc hs3 _).grown hgrow4 (by simp; omega) hv1
               clear hgrow4 hat4))
            all_goals
              have hs4 := hb4.size
              have own4 := own_keep own2 hb4
              have kc : (k : Int) ≤ (c6 : Int) := by omega
              have hc0 : ¬ c6 = 0 := by omega
              have hcl : (cutsV W H Rs).length = k * 3 := by rw [cutsV_len, HRL.out]
              have HCLN := Lib.hid hcl
              have hsrc : ∀ x', Src w4 (some ⟨g6, 0, none⟩) k x' (cutsV W H Rs) := fun _ => .inr ⟨_, rfl, fun j u hu => by
                have hj : j < k * 3 := by have := (List.getElem?_eq_some_iff.1 hu).1; rw [hcl] at this; exact this
                rw [add_at, Nat.zero_add]
                exact (own4.cellAt j hj).trans hu⟩
              clear y0 y1 y2 f0 f1 f2 own2 hcl own4
              go_wp2_with (at_builtin; refine app_list rfl (.tmp 48) (.tmp 51) _ rfl g 28 i0 (.agg #[.int .i64 0, .int .i64 0, .slice none 0 0]) 3 40 Try.underlying38 hi hz0 hz1 hz2' rfl (by decide) v2 1 _ rfl hown4 _ k _ (cutsV W H Rs) rfl HCLN.out (hsrc _) (cutsV_one _ _ _) (room_c (by omega) (by omega)).1 (room_c (by omega) (by omega)).2 (by omega) ?_; intro v3 w6 hown5 hgrow5 _)
              have hB6 := (hB2.trans (hb4.mono hbg)).grown hgrow5 (by omega) (fun kk hkk => (hown4.lt kk hkk).1)
              have HO5 := Lib.hid hown5
              clear hown5 hgrow5 hown4 hsrc
              go_wp2_with fail
              go_roundw
              case rel => exact ⟨k + 1, x :: Rs, by omega, by go_num, by rw [List.take_add_one, HX.out, HR.out]; simp, by have h5 := HO5.out; rw [Nat.add_comm 1 k] at h5; simpa [cutsV, cutV] using h5, fun h => by omega, hB6⟩
              case measure => simp [intOf]; omega
          · obtain ⟨q, hq⟩ : ∃ q, Rs[m - 1]? = some q := ⟨_, List.getElem?_eq_getElem (by have := HRL.out; omega)⟩
            have hqm := List.mem_of_getElem? hq
            have hyes := HLQ.out q hqm
            have hqD : q ∈ Ds := by rw [HR.out, List.mem_reverse] at hqm; exact List.mem_of_mem_take hqm
            have hql := HDL.out q hqD
            have hqs : SqsAt w5 g q.2.1 q.1 := by rw [hBg.out]; exact sqs_of_own (HCL.out.sq q hqD)
            obtain ⟨a0, a1, a2⟩ := cutsV_get W H Rs (m - 1) q hq
            have hg6 := (howni.lt g6 rfl).2
            have hg6' := (hown.lt g6 rfl).2
            have Q : ∀ j v, j < k * 3 → (cutsV W H Rs)[j]? = some v → ∀ u : Later (wo.heap.size + 1) wr, u.val.cell? ⟨g6, j, none⟩ = some v := fun j v hj hv u => (u.ok.cell (p := ⟨g6, j, none⟩) (by show g6 < _; omega)).trans ((howni.cellAt j hj).trans hv)
            have Q0 := Q _ _ (by omega) a0
            have Q1 := Q _ _ (by omega) a1
            have Q2 := Q _ _ (by omega) a2
            have G : ∀ j v, wr.cell? ⟨wo.heap.size, j, none⟩ = some v → ∀ u : Later (wo.heap.size + 1) wr, u.val.cell? ⟨wo.heap.size, j, none⟩ = some v := fun j v hv u => (u.ok.cell (p := ⟨wo.heap.size, j, none⟩) (Nat.lt_succ_self _)).trans hv
            have G0 := G 0 _ F0
            have G1 := G 1 _ F1
            have G2 := G 2 _ F2
            have hBu : ∀ u : Later (wo.heap.size + 1) wr, Below g w5 u.val := fun u => hBi.trans (u.ok.mono (by omega))
            have hgu : ∀ u : Later (wo.heap.size + 1) wr, g ≤ u.val.heap.size := fun u => by have := (hBu u).size; rw [← hBg.out] at this; exact this
            have CLu := fun u : Later (wo.heap.size + 1) wr => callB_yes (cuFirst_any W H W H x.2.1 q.2.1 x.1.length q.1.length x.2.2 q.2.2 x.1 q.1 u.val rfl rfl (by omega) (by omega) ((HXS.out.below (hBu u)).mono (hgu u)) ((hqs.below (hBu u)).mono (hgu u))) hyes
            have e1 : IntKind.i64.wrap ((m : Int) - 1) = (m : Int) - 1 := IntWalk.i64_in _ (by omega)
            have e2 : (0 : Int) ≤ (m : Int) - 1 := by omega
            have e2' : (1 : Int) ≤ (m : Int) := by omega
            have e3 : ((m : Int) - 1).toNat = m - 1 := by omega
            have e4 : (m : Int) - 1 < (k : Int) := by omega
            have hd : decide ((0 : Int) < (m : Int)) = true := by rw [decide_eq_true_iff]; omega
            clear hq a0 a1 a2 Q G hBu hgu hyes hqm hqs hqD
            go_wp2_with fail
            refine wp_region_sub (wo.heap.size + 1) (by kernel_rfl) (by kernel_rfl) ?_
            repeat (first | go_big_quiet_step ((go_at_call 68; exact sub_of _ hzi (CLu _))) | quiet_step ((go_at_call 68; exact sub_of _ hzi (CLu _))))
            refine wpQuiet_nil ?_
            rintro w2 ⟨uu, hu⟩; have hb2 := uu.ok; rw [← hu] at hb2; clear hu uu hd CLu Q0 Q1 Q2 G0 G1 G2 e1
            go_wp2_with fail
            go_roundw
            case rel => exact ⟨m - 1, by omega, by congr 1; omega, hbi.trans hb2⟩
            case measure => simp [intOf]; omega
    · obtain rfl : k = Ds.length := by omega
      obtain ⟨A6, c6, rfl⟩ := own_val hown
      have HOW := Lib.hid hown
      have HBR := Lib.hid hbr
      have HR := Lib.hid hRs
      clear hown hbr hRs hnl
      go_wp2_with fail
      go_ret
      have e : Rs.length = Ds.length := by rw [HR.out]; simp
      refine ⟨A6, c6, Rs, by rw [e]; rfl, ?_, ⟨by rw [e]; exact own_base HOW.out hgN, fun y hy => ?_⟩, HB5.out.trans (HBR.out.mono hgN)⟩
      · rw [HR.out, List.take_length, List.map_reverse, HDS.out, List.reverse_reverse, HRR.out]
      · rw [HR.out, List.take_length, List.mem_reverse] at hy
        exact own_below (HCL.out.sq y hy) HBR.out (fun kk hkk => by rw [hBg.out]; exact ((HCL.out.sq y hy).lt kk hkk).2)
end Go.Proofs.Ytdpbjmdgjhleeaa

