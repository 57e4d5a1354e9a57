/- Cuts compared by the program, and the least of some. -/
import Derived.Test.YtdpbjmdgjhleeaaFirstG
import Derived.Test.YtdpbjmdgjhleeaaGen
set_option linter.all false
namespace Go.Proofs.Ytdpbjmdgjhleeaa
open Go.RowKit

theorem or3_any (a b c : Int) (g : Nat) (w : World) (ha : w.cell? ⟨g, 0, none⟩ = some (.int .i64 a)) (hb : w.cell? ⟨g, 1, none⟩ = some (.int .i64 b)) (hc : w.cell? ⟨g, 2, none⟩ = some (.int .i64 c)) :
    Calls Try.prog 129 #[.slice (some ⟨g, 0, none⟩) 3 3] w fun e w' => e = .returned (.int .i64 (orI a (orI b c))) ∧ w = w' := by
  by_cases h : a = 0
  · subst h
    rw [show orI 0 (orI b c) = orI b c from rfl]
    by_cases h : b = 0
    · subst h
      rw [show orI 0 c = c from rfl]
      by_cases h : c = 0
      · subst h
        go_enter Try.func129, Try.ntmps129
        go_wp2
        refine wp_loop_rounds 4 ?_
        rw [rounds_succ]
        go_wp2
        rw [rounds_succ]
        go_wp2
        rw [rounds_succ]
        go_wp2
        rw [rounds_succ]
        go_wp2
        go_ret
        exact ⟨rfl, rfl⟩
      · have hq : (c != 0) = true := by simpa using h
        go_enter Try.func129, Try.ntmps129
        go_wp2
        refine wp_loop_rounds 3 ?_
        rw [rounds_succ]
        go_wp2
        rw [rounds_succ]
        go_wp2
        rw [rounds_succ]
        go_wp2
        go_ret
        exact ⟨rfl, rfl⟩
    · have hq : (b != 0) = true := by simpa using h
      rw [show orI b c = b from if_neg h]
      go_enter Try.func129, Try.ntmps129
      go_wp2
      refine wp_loop_rounds 2 ?_
      rw [rounds_succ]
      go_wp2
      rw [rounds_succ]
      go_wp2
      go_ret
      exact ⟨rfl, rfl⟩
  · rw [show orI a (orI b c) = a from if_neg h]
    have hq : (a != 0) = true := by simpa using h
    go_enter Try.func129, Try.ntmps129
    go_wp2
    refine wp_loop_rounds 1 ?_
    rw [rounds_succ]
    go_wp2
    go_ret
    exact ⟨rfl, rfl⟩

def cmpS (a b : Sq) : Int := orI (cmpI a.x b.x) (orI (cmpI a.y b.y) (cmpI a.d b.d))
theorem cmpS_lt (a b : Sq) : cmpS a b < 0 ↔ F.ltS a b := by
  unfold cmpS orI cmpI F.ltS
  (repeat' split) <;> omega
theorem cmpS_eq {a b : Sq} (h : cmpS a b = 0) : a = b := by
  obtain ⟨x, y, d⟩ := a
  obtain ⟨x', y', d'⟩ := b
  unfold cmpS orI cmpI at h
  simp only at h
  have : x = x' ∧ y = y' ∧ d = d' := by
    revert h
    (repeat' split) <;> omega
  obtain ⟨rfl, rfl, rfl⟩ := this
  rfl
theorem cmpS_self (a : Sq) : cmpS a a = 0 := by
  unfold cmpS orI cmpI
  (repeat' split) <;> omega
theorem compareSquares_any (x y d x' y' d' : Int) (w : World) :
    Calls Try.prog 107 #[.agg #[.int .i64 x, .int .i64 y, .int .i64 d], .agg #[.int .i64 x', .int .i64 y', .int .i64 d']] w fun e w' =>
      e = .returned (.int .i64 (cmpS ⟨x, y, d⟩ ⟨x', y', d'⟩)) ∧ Below w.heap.size w w' := by
  go_enter Try.func107, Try.ntmps107
  go_wp2_with fail
  go_region_held3 (fun w' => w'.cell? ⟨w.heap.size, 0, none⟩ = some (.int .i64 x) ∧ w'.cell? ⟨w.heap.size, 1, none⟩ = some (.int .i64 y) ∧ w'.cell? ⟨w.heap.size, 2, none⟩ = some (.int .i64 d) ∧ w'.cell? ⟨w.heap.size + 1, 0, none⟩ = some (.int .i64 x') ∧ w'.cell? ⟨w.heap.size + 1, 1, none⟩ = some (.int .i64 y') ∧ w'.cell? ⟨w.heap.size + 1, 2, none⟩ = some (.int .i64 d'))
    (simp [go_sem, World.cell?_alloc_past])
    (first
      | (go_at_call 125; refine (compare_any _ _ _).mono ?_; rintro e w' ⟨rfl, rfl⟩)
      | (go_at_call 129; refine (or3_any (cmpI x x') (cmpI y y') (cmpI d d') _ _ (by simp [go_sem]) (by simp [go_sem]) (by simp [go_sem])).mono ?_; rintro e w' ⟨rfl, rfl⟩))
  go_wp2_with fail
  go_ret
  exact ⟨rfl, by repeat (first | exact Below.refl _ _ | refine Below.alloc ?_ (by simp; try omega) _ | refine Below.drew ?_)⟩

theorem takeS_step {a b : List Sq} {k : Nat} {x : Sq} (hp : a.take k = b.take k) (ha : a[k]? = some x) (hb : b[k]? = some x) : a.take (k + 1) = b.take (k + 1) := by
  rw [List.take_add_one, List.take_add_one, ha, hb, hp]

set_option maxRecDepth 100000 in
set_option maxHeartbeats 2000000 in
theorem compareFunc_any (A A' : Option Addr) (n n' c c' : Nat) (a b : List Sq) (w : World) (hl : a.length = n) (hl' : b.length = n') (hn : n ≤ 1048576) (hn' : n' ≤ 1048576) (hA : SqsAt w w.heap.size A a) (hA' : SqsAt w w.heap.size A' b) :
    Calls Try.prog 106 #[.slice A n c, .slice A' n' c', .func (.func 107) #[] #[]] w fun e w' => (∃ v, e = .returned (.int .i64 v) ∧ (v < 0 ↔ F.ltQ a b)) ∧ Below w.heap.size w w' := by
  subst hl
  subst hl'
  go_enter Try.func106, Try.ntmps106
  go_wp2_with fail
  go_loopw [13] (fun i wr => ∃ k : Nat, k ≤ a.length ∧ k ≤ b.length ∧ i = .int .i64 k ∧ a.take k = b.take k ∧ Below w.heap.size w wr) (fun i _ => a.length - (intOf i).toNat)
  case atStart => exact ⟨0, Nat.zero_le _, Nat.zero_le _, rfl, rfl, Below.refl _ _⟩
  case round =>
    obtain ⟨k, hka, hkb, rfl, hp, hbr⟩ := hrel
    have hzr := hbr.size
    by_cases h1 : k < a.length
    · obtain ⟨s, hs⟩ : ∃ s, a[k]? = some s := ⟨_, List.getElem?_eq_getElem h1⟩
      obtain ⟨b1, o1, rfl, hb1, c0, c1, c2⟩ := (hA.below hbr) k s hs
      have k0 : (0 : Int) ≤ (k : Int) := by omega
      have k1 : (k : Int) < (a.length : Int) := by omega
      have hb1' : b1 < wr.heap.size := by omega
      by_cases h2 : k < b.length
      · obtain ⟨q, hq⟩ : ∃ q, b[k]? = some q := ⟨_, List.getElem?_eq_getElem h2⟩
        obtain ⟨b2, o2, rfl, hb2, d0, d1, d2⟩ := (hA'.below hbr) k q hq
        have k2 : (k : Int) < (b.length : Int) := by omega
        have hb2' : b2 < wr.heap.size := by omega
        have hlt := fun hne => F.ltQ_at hp hs hq hne
        have HX := Lib.hid hs
        have HY := Lib.hid hq
        have HP := Lib.hid hp
        have HLT := Lib.hid hlt
        clear hs hq hp hlt hA hA'
        have CS := compareSquares_any s.x s.y s.d q.x q.y q.d
        have e1 : (⟨s.x, s.y, s.d⟩ : Sq) = s := rfl
        have e2 : (⟨q.x, q.y, q.d⟩ : Sq) = q := rfl
        rw [e1, e2] at CS
        clear e1 e2
        by_cases hz : cmpS s q = 0
        · have e3 := cmpS_eq hz
          rw [hz] at CS
          have HE := Lib.hid e3
          clear e3 hz
          go_wp2_with fail
          refine (CS _).mono ?_
          rintro e w' ⟨rfl, hb⟩
          have hbE := ((hbr.alloc hzr (.cells #[.int .i64 s.x, .int .i64 s.y, .int .i64 s.d] 85)).alloc (by simp; omega) (.cells #[.int .i64 q.x, .int .i64 q.y, .int .i64 q.d] 85)).trans (hb.mono (by simp; omega))
          clear CS hb
          go_wp2_with fail
          go_roundw
          case rel => exact ⟨k + 1, by omega, by omega, by go_num, takeS_step HP.out HX.out (by rw [HE.out]; exact HY.out), hbE⟩
          case measure => simp [intOf]; omega
        · obtain ⟨v, hv⟩ : ∃ v, cmpS s q = v := ⟨_, rfl⟩
          have hlt2 := cmpS_lt s q
          rw [hv] at CS hz hlt2
          have hne : s ≠ q := by
            rintro rfl
            rw [cmpS_self] at hv
            omega
          have HN := Lib.hid hne
          have H2 := Lib.hid hlt2
          have hq0 : (v != 0) = true := by simpa using hz
          clear hv hz hne hlt2
          go_wp2_with fail
          refine (CS _).mono ?_
          rintro e w' ⟨rfl, hb⟩
          have hbE := ((hbr.alloc hzr (.cells #[.int .i64 s.x, .int .i64 s.y, .int .i64 s.d] 85)).alloc (by simp; omega) (.cells #[.int .i64 q.x, .int .i64 q.y, .int .i64 q.d] 85)).trans (hb.mono (by simp; omega))
          clear CS hb
          go_wp2_with fail
          go_ret
          exact ⟨⟨v, rfl, H2.out.trans (HLT.out HN.out).symm⟩, hbE⟩
      · obtain rfl : k = b.length := by omega
        have hno : ¬ F.ltQ a b := by
          rw [F.ltQ_drop hp hka (Nat.le_refl _), List.drop_length]
          cases e : a.drop b.length with
          | nil => exact id
          | cons _ _ => exact id
        have HN := Lib.hid hno
        clear hs hp hA hA' hno
        go_wp2_with fail
        go_ret
        exact ⟨⟨1, rfl, by simp [HN.out]⟩, hbr.alloc hzr _⟩
    · obtain rfl : k = a.length := by omega
      have hlt := F.ltQ_end hp hkb
      have HLT := Lib.hid hlt
      clear hp hlt hA hA'
      by_cases h2 : a.length < b.length
      · go_wp2_with fail
        go_ret
        exact ⟨⟨-1, rfl, by simp [HLT.out, h2]⟩, hbr⟩
      · go_wp2_with fail
        go_ret
        exact ⟨⟨0, rfl, by simp [HLT.out, h2]⟩, hbr⟩

set_option maxRecDepth 100000 in
theorem compareCuts_any (W H W' H' : Int) (A A' : Option Addr) (n n' c c' : Nat) (a b : List Sq) (w : World) (hl : a.length = n) (hl' : b.length = n') (hn : n ≤ 1048576) (hn' : n' ≤ 1048576) (hA : SqsAt w w.heap.size A a) (hA' : SqsAt w w.heap.size A' b) :
    Calls Try.prog 58 #[.agg #[.int .i64 W, .int .i64 H, .slice A n c], .agg #[.int .i64 W', .int .i64 H', .slice A' n' c']] w fun e w' => (∃ v, e = .returned (.int .i64 v) ∧ (v < 0 ↔ F.ltQ a b)) ∧ Below w.heap.size w w' := by
  have hB : Below w.heap.size w ((w.alloc (.cells #[.int .i64 W, .int .i64 H, .slice A n c] 28)).alloc (.cells #[.int .i64 W', .int .i64 H', .slice A' n' c'] 28)) := ((Below.refl _ _).alloc (Nat.le_refl _) _).alloc (by simp) _
  go_enter Try.func58, Try.ntmps58
  go_wp2_with fail
  refine (compareFunc_any A A' n n' c c' a b _ hl hl' hn hn' ((hA.below hB).mono hB.size) ((hA'.below hB).mono hB.size)).mono ?_
  rintro e w2 ⟨⟨v, rfl, hv⟩, hb2⟩
  have hBE := hB.trans (hb2.mono hB.size)
  have HV := Lib.hid hv
  clear hb2 hB hv
  go_wp2_with fail
  go_ret
  exact ⟨⟨v, rfl, HV.out⟩, hBE⟩

/-- A cut as it is handed on. -/
structure Cv where
  w : Int
  h : Int
  A : Option Addr
  c : Nat
  l : List Sq
def Cv.val (v : Cv) : Value := .agg #[.int .i64 v.w, .int .i64 v.h, .slice v.A v.l.length v.c]
/-- These cuts lie in a row. -/
structure CutsAt (w : World) (B g : Nat) (cs : List Cv) : Prop where
  lt : g < B
  size : B ≤ w.heap.size
  at_ : ∀ (i : Nat) v, cs[i]? = some v → w.cell? ⟨g, i * 3, none⟩ = some (.int .i64 v.w) ∧ w.cell? ⟨g, i * 3 + 1, none⟩ = some (.int .i64 v.h) ∧ w.cell? ⟨g, i * 3 + 2, none⟩ = some (.slice v.A v.l.length v.c)
  sqs : ∀ v ∈ cs, SqsAt w B v.A v.l ∧ v.l.length ≤ 1048576
theorem CutsAt.below {w w' : World} {B g : Nat} {cs : List Cv} (h : CutsAt w B g cs) (hb : Below B w w') (hz : w.heap.size ≤ w'.heap.size) : CutsAt w' B g cs :=
  ⟨h.lt, Nat.le_trans h.size hz, fun i v hv => by
    obtain ⟨a, b, c⟩ := h.at_ i v hv
    exact ⟨(hb.cell (p := ⟨g, i * 3, none⟩) h.lt).trans a, (hb.cell (p := ⟨g, i * 3 + 1, none⟩) h.lt).trans b, (hb.cell (p := ⟨g, i * 3 + 2, none⟩) h.lt).trans c⟩, fun v hv => ⟨(h.sqs v hv).1.below hb, (h.sqs v hv).2⟩⟩
/-- The least of the first ones. -/
def Least (cs : List Cv) (k : Nat) (m : Cv) : Prop := m ∈ cs ∧ (∃ i, i < k ∧ cs[i]? = some m) ∧ ∀ (i : Nat) v, i < k → cs[i]? = some v → ¬ F.ltQ v.l m.l
theorem Least.yes {cs : List Cv} {k : Nat} {m v : Cv} (h : Least cs k m) (hv : cs[k]? = some v) (hlt : F.ltQ v.l m.l) : Least cs (k + 1) v := by
  refine ⟨List.mem_of_getElem? hv, ⟨k, by omega, hv⟩, fun i u hi hu => ?_⟩
  by_cases e : i < k
  · exact fun q => h.2.2 i u e hu (F.ltQ_trans _ _ _ q hlt)
  · obtain rfl : i = k := by omega
    obtain rfl := Option.some.inj (hv.symm.trans hu)
    exact F.ltQ_irrefl _
theorem Least.no {cs : List Cv} {k : Nat} {m v : Cv} (h : Least cs k m) (hv : cs[k]? = some v) (hlt : ¬ F.ltQ v.l m.l) : Least cs (k + 1) m := by
  obtain ⟨i, hi, hm⟩ := h.2.1
  refine ⟨h.1, ⟨i, by omega, hm⟩, fun i u hi hu => ?_⟩
  by_cases e : i < k
  · exact h.2.2 i u e hu
  · obtain rfl : i = k := by omega
    obtain rfl := Option.some.inj (hv.symm.trans hu)
    exact hlt

structure MinMem (w wr : World) (m : Cv) : Prop where
  below : Below w.heap.size w wr
  size : w.heap.size + 2 ≤ wr.heap.size
  c0 : wr.cell? ⟨w.heap.size + 1, 0, none⟩ = some (.int .i64 m.w)
  c1 : wr.cell? ⟨w.heap.size + 1, 1, none⟩ = some (.int .i64 m.h)
  c2 : wr.cell? ⟨w.heap.size + 1, 2, none⟩ = some (.slice m.A m.l.length m.c)
  fr : ∀ b o, w.heap.size ≤ b → b < w.heap.size + 2 → wr.frozen? ⟨b, o, none⟩ = false
  r0 : wr.cell? ⟨w.heap.size, 0, none⟩ = some (.int .i64 0)
  r1 : wr.cell? ⟨w.heap.size, 1, none⟩ = some (.int .i64 0)
  r2 : wr.cell? ⟨w.heap.size, 2, none⟩ = some (.slice none 0 0)
theorem MinMem.keep {w wr w' : World} {m : Cv} (h : MinMem w wr m) (hb : Below wr.heap.size wr w') : MinMem w w' m := by
  have hz := h.size
  have hz' := hb.size
  refine ⟨h.below.trans (hb.mono h.below.size), by omega, (hb.cell (p := ⟨w.heap.size + 1, 0, none⟩) ?_).trans h.c0, (hb.cell (p := ⟨w.heap.size + 1, 1, none⟩) ?_).trans h.c1, (hb.cell (p := ⟨w.heap.size + 1, 2, none⟩) ?_).trans h.c2, fun b o h1 h2 => (hb.frozen (p := ⟨b, o, none⟩) ?_).trans (h.fr b o h1 h2), (hb.cell (p := ⟨w.heap.size, 0, none⟩) ?_).trans h.r0, (hb.cell (p := ⟨w.heap.size, 1, none⟩) ?_).trans h.r1, (hb.cell (p := ⟨w.heap.size, 2, none⟩) ?_).trans h.r2⟩
  all_goals (show _ < wr.heap.size; simp only; omega)
theorem MinMem.put {w wr : World} {m : Cv} (h : MinMem w wr m) (v : Cv) : MinMem w (((wr.setCell ⟨w.heap.size + 1, 0, none⟩ (.int .i64 v.w)).setCell ⟨w.heap.size + 1, 1, none⟩ (.int .i64 v.h)).setCell ⟨w.heap.size + 1, 2, none⟩ (.slice v.A v.l.length v.c)) v := by
  have hz := h.size
  have hf := fun o => h.fr (w.heap.size + 1) o (by omega) (by omega)
  refine ⟨((h.below.setCell (by simp) _).setCell (by simp) _).setCell (by simp) _, by simpa using hz, ?_, ?_, ?_, fun b o h1 h2 => ?_, ?_, ?_, ?_⟩
  · simp [go_sem, h.c0]
  · simp [go_sem, h.c1]
  · simp [go_sem, h.c2]
  · have := h.fr b o h1 h2
    simpa [go_sem] using this
  · simp [go_sem, h.r0]
  · simp [go_sem, h.r1]
  · simp [go_sem, h.r2]

set_option maxRecDepth 100000 in
set_option maxHeartbeats 4000000 in
theorem minCuts_any (g c : Nat) (cs : List Cv) (w : World) (h1 : 1 ≤ cs.length) (hn : cs.length ≤ 1048576) (hA : CutsAt w w.heap.size g cs) :
    Calls Try.prog 57 #[.slice (some ⟨g, 0, none⟩) cs.length c, .func (.func 58) #[] #[]] w fun e w' => (∃ m, e = .returned m.val ∧ Least cs cs.length m) ∧ Below w.heap.size w w' := by
  obtain ⟨m0, hm0⟩ : ∃ m, cs[0]? = some m := ⟨_, List.getElem?_eq_getElem (by omega)⟩
  obtain ⟨a0, a1, a2⟩ := hA.at_ 0 m0 hm0
  have hgl := hA.lt
  obtain ⟨W1, hW1⟩ : ∃ W1, W1 = (w.alloc (.cells #[.int .i64 0, .int .i64 0, .slice none 0 0] 28)).alloc (.cells #[.int .i64 m0.w, .int .i64 m0.h, .slice m0.A m0.l.length m0.c] 28) := ⟨_, rfl⟩
  have hB1 : Below w.heap.size w W1 := by rw [hW1]; exact ((Below.refl _ _).alloc (Nat.le_refl _) _).alloc (by simp) _
  have hz1 : W1.heap.size = w.heap.size + 2 := by rw [hW1]; simp
  have hle : Least cs 1 m0 := ⟨List.mem_of_getElem? hm0, ⟨0, by omega, hm0⟩, fun i v hi hv => by
    obtain rfl : i = 0 := by omega
    obtain rfl := Option.some.inj (hm0.symm.trans hv)
    exact F.ltQ_irrefl _⟩
  have q0 : W1.cell? ⟨w.heap.size + 1, 0, none⟩ = some (.int .i64 m0.w) := by rw [hW1]; simp [go_sem]
  have q1 : W1.cell? ⟨w.heap.size + 1, 1, none⟩ = some (.int .i64 m0.h) := by rw [hW1]; simp [go_sem]
  have q2 : W1.cell? ⟨w.heap.size + 1, 2, none⟩ = some (.slice m0.A m0.l.length m0.c) := by rw [hW1]; simp [go_sem]
  have s0 : W1.cell? ⟨w.heap.size, 0, none⟩ = some (.int .i64 0) := by rw [hW1]; simp [go_sem]
  have s1 : W1.cell? ⟨w.heap.size, 1, none⟩ = some (.int .i64 0) := by rw [hW1]; simp [go_sem]
  have s2 : W1.cell? ⟨w.heap.size, 2, none⟩ = some (.slice none 0 0) := by rw [hW1]; simp [go_sem]
  have qf : ∀ b o, w.heap.size ≤ b → b < w.heap.size + 2 → W1.frozen? ⟨b, o, none⟩ = false := by
    intro b o h1 h2
    rw [hW1]
    by_cases e : b = w.heap.size
    · subst e
      rw [World.frozen?_alloc_past _ _ _ (by simp)]
      exact World.frozen?_alloc_at _ _ _ _ rfl
    · exact World.frozen?_alloc_at _ _ _ _ (by simp; omega)
  have n1 : (1 : Int) ≤ (cs.length : Int) := by omega
  have k0 : (0 : Int) < (cs.length : Int) := by omega
  have HM := Lib.hid hm0
  have HLE := Lib.hid hle
  clear hm0 hle
  go_enter Try.func57, Try.ntmps57
  go_wp2_with fail
  rw [← hW1]
  have hM1 : MinMem w W1 m0 := ⟨hB1, Nat.le_of_eq hz1.symm, q0, q1, q2, qf, s0, s1, s2⟩
  clear hW1 a0 a1 a2 q0 q1 q2 qf s0 s1 s2
  go_loopw [6] (fun i wr => ∃ (k : Nat) (m : Cv), 1 ≤ k ∧ k ≤ cs.length ∧ i = .int .i64 k ∧ Least cs k m ∧ MinMem w wr m) (fun i _ => cs.length - (intOf i).toNat)
  case atStart => exact ⟨1, m0, Nat.le_refl _, h1, rfl, HLE.out, hM1⟩
  case round =>
    clear hM1 hz1 hB1
    obtain ⟨k, m, hk1, hkl, rfl, hLs, hM⟩ := hrel
    obtain ⟨hbr, hzr, c0, c1, c2, hfr, r0, r1, r2⟩ := id hM
    have HLS := Lib.hid hLs
    have hzr0 : w.heap.size + 1 < wr.heap.size := by omega
    by_cases hlt : k < cs.length
    · obtain ⟨v, hv⟩ : ∃ v, cs[k]? = some v := ⟨_, List.getElem?_eq_getElem hlt⟩
      obtain ⟨d0, d1, d2⟩ := (hA.below hbr hbr.size).at_ k v hv
      have hsv := hA.sqs v (List.mem_of_getElem? hv)
      have hsm := hA.sqs m hLs.1
      have HV := Lib.hid hv
      have z0 : (0 : Int) ≤ (k : Int) := by omega
      have z1 : (k : Int) < (cs.length : Int) := by omega
      have hgz : g < wr.heap.size := by omega
      have CM : ∀ w' : World, (Below wr.heap.size wr w' ∧ wr.heap.size ≤ w'.heap.size ∧ ∀ b o, b < wr.heap.size → w'.cell? ⟨b, o, none⟩ = wr.cell? ⟨b, o, none⟩) → Calls Try.prog 58 #[.agg #[.int .i64 v.w, .int .i64 v.h, .slice v.A v.l.length v.c], .agg #[.int .i64 m.w, .int .i64 m.h, .slice m.A m.l.length m.c]] w' fun e w2 => (∃ u, e = .returned (.int .i64 u) ∧ (u < 0 ↔ F.ltQ v.l m.l)) ∧ Below w'.heap.size w' w2 :=
        fun w' hS => compareCuts_any v.w v.h m.w m.h v.A m.A _ _ v.c m.c v.l m.l w' rfl rfl hsv.2 hsm.2 (sqsS ((hsv.1.below hbr).mono hbr.size) hS) (sqsS ((hsm.1.below hbr).mono hbr.size) hS)
      have f0 := hfr (w.heap.size + 1) 0 (by omega) (by omega)
      have f1 := hfr (w.heap.size + 1) 1 (by omega) (by omega)
      have f2 := hfr (w.heap.size + 1) 2 (by omega) (by omega)
      clear hv hLs hsv hsm hfr
      go_wp2_with fail
      go_region_held3 (fun w' => Below wr.heap.size wr w' ∧ wr.heap.size ≤ w'.heap.size ∧ ∀ b o, b < wr.heap.size → w'.cell? ⟨b, o, none⟩ = wr.cell? ⟨b, o, none⟩)
        (first | assumption | exact keepS (by assumption) (by assumption) | exact ⟨(Below.refl _ _).drew, Nat.le_refl _, fun _ _ _ => rfl⟩)
        ((go_at_call 58; (with_reducible refine (CM _ (by assumption)).mono ?_); rintro e w8 ⟨⟨u, rfl, hu⟩, hb8⟩))
      have hB8 := belowS (B := wr.heap.size) (wp := w8) (by assumption)
      have hM8 := hM.keep hB8
      have HU := Lib.hid hu
      have d0 := (hB8.cell (p := ⟨g, k * 3, none⟩) hgz).trans d0
      have d1 := (hB8.cell (p := ⟨g, k * 3 + 1, none⟩) hgz).trans d1
      have d2 := (hB8.cell (p := ⟨g, k * 3 + 2, none⟩) hgz).trans d2
      have c0 := hM8.c0
      have c1 := hM8.c1
      have c2 := hM8.c2
      have f0 := (hB8.frozen (p := ⟨w.heap.size + 1, 0, none⟩) hzr0).trans f0
      have f1 := (hB8.frozen (p := ⟨w.heap.size + 1, 1, none⟩) hzr0).trans f1
      have f2 := (hB8.frozen (p := ⟨w.heap.size + 1, 2, none⟩) hzr0).trans f2
      clear CM hb8 hu
      by_cases hu0 : u < 0
      · go_wp2_with fail
        go_roundw
        case rel => exact ⟨k + 1, v, by omega, by omega, by go_num, HLS.out.yes HV.out (HU.out.1 hu0), hM8.put v⟩
        case measure => simp [intOf]; omega
      · go_wp2_with fail
        go_roundw
        case rel => exact ⟨k + 1, m, by omega, by omega, by go_num, HLS.out.no HV.out (fun h => hu0 (HU.out.2 h)), hM8⟩
        case measure => simp [intOf]; omega
    · obtain rfl : k = cs.length := by omega
      have f0 := hfr w.heap.size 0 (by omega) (by omega)
      have f1 := hfr w.heap.size 1 (by omega) (by omega)
      have f2 := hfr w.heap.size 2 (by omega) (by omega)
      have hz0 : w.heap.size < wr.heap.size := by omega
      clear hLs
      go_wp2_with fail
      have hB := ((hbr.setCell (p := ⟨w.heap.size, 0, none⟩) (Nat.le_refl _) (.int .i64 m.w)).setCell (p := ⟨w.heap.size, 1, none⟩) (Nat.le_refl _) (.int .i64 m.h)).setCell (p := ⟨w.heap.size, 2, none⟩) (Nat.le_refl _) (.slice m.A m.l.length m.c)
      refine bodyPost_ret (v := m.val) (by simp [results, Try.results57, go_sem, r0, r1, r2, Cv.val]) rfl ?_
      exact ⟨⟨m, rfl, HLS.out⟩, hB⟩
end Go.Proofs.Ytdpbjmdgjhleeaa
