/- Cuts compared by the program, and the least of some. -/
import Derived.Test.YtebnekicbcdnaaaFirstG
import Derived.Test.YtebnekicbcdnaaaGen
set_option linter.all false
namespace Go.Proofs.Ytebnekicbcdnaaa
open Go.RowKit

theorem or3_any (a b c : Int) (g : Nat) (w : World) (ha : w.cell? ⟨g, 0, none⟩ = some (.int .i64 a)) (hb : w.cell? ⟨g, 1, none⟩ = some (.int .i64 b)) (hc : w.cell? ⟨g, 2, none⟩ = some (.int .i64 c)) :
    Calls Try.prog 122 #[.slice (some ⟨g, 0, none⟩) 3 3] w fun e w' => e = .returned (.int .i64 (orI a (orI b c))) ∧ w = w' := by
  by_cases h : a = 0
  · subst h
    rw [show orI 0 (orI b c) = orI b c from rfl]
    by_cases h : b = 0
    · subst h
      rw [show orI 0 c = c from rfl]
      by_cases h : c = 0
      · subst h
        go_enter Try.func122, Try.ntmps122
        go_wp2
        refine wp_loop_rounds 4 ?_
        rw [rounds_succ]
        go_wp2
        rw [rounds_succ]
        go_wp2
        rw [rounds_succ]
        go_wp2
        rw [rounds_succ]
        go_wp2
        go_ret
        exact ⟨rfl, rfl⟩
      · have hq : (c != 0) = true := by simpa using h
        go_enter Try.func122, Try.ntmps122
        go_wp2
        refine wp_loop_rounds 3 ?_
        rw [rounds_succ]
        go_wp2
        rw [rounds_succ]
        go_wp2
        rw [rounds_succ]
        go_wp2
        go_ret
        exact ⟨rfl, rfl⟩
    · have hq : (b != 0) = true := by simpa using h
      rw [show orI b c = b from if_neg h]
      go_enter Try.func122, Try.ntmps122
      go_wp2
      refine wp_loop_rounds 2 ?_
      rw [rounds_succ]
      go_wp2
      rw [rounds_succ]
      go_wp2
      go_ret
      exact ⟨rfl, rfl⟩
  · rw [show orI a (orI b c) = a from if_neg h]
    have hq : (a != 0) = true := by simpa using h
    go_enter Try.func122, Try.ntmps122
    go_wp2
    refine wp_loop_rounds 1 ?_
    rw [rounds_succ]
    go_wp2
    go_ret
    exact ⟨rfl, rfl⟩

def cmpS (a b : Sq) : Int := orI (cmpI a.x b.x) (orI (cmpI a.y b.y) (cmpI a.d b.d))
theorem cmpS_lt (a b : Sq) : cmpS a b < 0 ↔ F.ltS a b := by
  unfold cmpS orI cmpI F.ltS
  (repeat' split) <;> omega
theorem cmpS_eq {a b : Sq} (h : cmpS a b = 0) : a = b := by
  obtain ⟨x, y, d⟩ := a
  obtain ⟨x', y', d'⟩ := b
  unfold cmpS orI cmpI at h
  simp only at h
  have : x = x' ∧ y = y' ∧ d = d' := by
    revert h
    (repeat' split) <;> omega
  obtain ⟨rfl, rfl, rfl⟩ := this
  rfl
theorem cmpS_self (a : Sq) : cmpS a a = 0 := by
  unfold cmpS orI cmpI
  (repeat' split) <;> omega
theorem takeS_step {a b : List Sq} {k : Nat} {x : Sq} (hp : a.take k = b.take k) (ha : a[k]? = some x) (hb : b[k]? = some x) : a.take (k + 1) = b.take (k + 1) := by
  rw [List.take_add_one, List.take_add_one, ha, hb, hp]

/-- A cut as it is handed on. -/
structure Cv where
  w : Int
  h : Int
  A : Option Addr
  c : Nat
  l : List Sq
def Cv.val (v : Cv) : Value := .agg #[.int .i64 v.w, .int .i64 v.h, .slice v.A v.l.length v.c]
/-- These cuts lie in a row. -/
structure CutsAt (w : World) (B g : Nat) (cs : List Cv) : Prop where
  lt : g < B
  size : B ≤ w.heap.size
  at_ : ∀ (i : Nat) v, cs[i]? = some v → w.cell? ⟨g, i * 3, none⟩ = some (.int .i64 v.w) ∧ w.cell? ⟨g, i * 3 + 1, none⟩ = some (.int .i64 v.h) ∧ w.cell? ⟨g, i * 3 + 2, none⟩ = some (.slice v.A v.l.length v.c)
  sqs : ∀ v ∈ cs, SqsAt w B v.A v.l ∧ v.l.length ≤ 1048576
theorem CutsAt.below {w w' : World} {B g : Nat} {cs : List Cv} (h : CutsAt w B g cs) (hb : Below B w w') (hz : w.heap.size ≤ w'.heap.size) : CutsAt w' B g cs :=
  ⟨h.lt, Nat.le_trans h.size hz, fun i v hv => by
    obtain ⟨a, b, c⟩ := h.at_ i v hv
    exact ⟨(hb.cell (p := ⟨g, i * 3, none⟩) h.lt).trans a, (hb.cell (p := ⟨g, i * 3 + 1, none⟩) h.lt).trans b, (hb.cell (p := ⟨g, i * 3 + 2, none⟩) h.lt).trans c⟩, fun v hv => ⟨(h.sqs v hv).1.below hb, (h.sqs v hv).2⟩⟩
/-- The least of the first ones. -/
def Least (cs : List Cv) (k : Nat) (m : Cv) : Prop := m ∈ cs ∧ (∃ i, i < k ∧ cs[i]? = some m) ∧ ∀ (i : Nat) v, i < k → cs[i]? = some v → ¬ F.ltQ v.l m.l
theorem Least.yes {cs : List Cv} {k : Nat} {m v : Cv} (h : Least cs k m) (hv : cs[k]? = some v) (hlt : F.ltQ v.l m.l) : Least cs (k + 1) v := by
  refine ⟨List.mem_of_getElem? hv, ⟨k, by omega, hv⟩, fun i u hi hu => ?_⟩
  by_cases e : i < k
  · exact fun q => h.2.2 i u e hu (F.ltQ_trans _ _ _ q hlt)
  · obtain rfl : i = k := by omega
    obtain rfl := Option.some.inj (hv.symm.trans hu)
    exact F.ltQ_irrefl _
theorem Least.no {cs : List Cv} {k : Nat} {m v : Cv} (h : Least cs k m) (hv : cs[k]? = some v) (hlt : ¬ F.ltQ v.l m.l) : Least cs (k + 1) m := by
  obtain ⟨i, hi, hm⟩ := h.2.1
  refine ⟨h.1, ⟨i, by omega, hm⟩, fun i u hi hu => ?_⟩
  by_cases e : i < k
  · exact h.2.2 i u e hu
  · obtain rfl : i = k := by omega
    obtain rfl := Option.some.inj (hv.symm.trans hu)
    exact hlt

structure MinMem (w wr : World) (m : Cv) : Prop where
  below : Below w.heap.size w wr
  size : w.heap.size + 2 ≤ wr.heap.size
  c0 : wr.cell? ⟨w.heap.size + 1, 0, none⟩ = some (.int .i64 m.w)
  c1 : wr.cell? ⟨w.heap.size + 1, 1, none⟩ = some (.int .i64 m.h)
  c2 : wr.cell? ⟨w.heap.size + 1, 2, none⟩ = some (.slice m.A m.l.length m.c)
  fr : ∀ b o, w.heap.size ≤ b → b < w.heap.size + 2 → wr.frozen? ⟨b, o, none⟩ = false
  r0 : wr.cell? ⟨w.heap.size, 0, none⟩ = some (.int .i64 0)
  r1 : wr.cell? ⟨w.heap.size, 1, none⟩ = some (.int .i64 0)
  r2 : wr.cell? ⟨w.heap.size, 2, none⟩ = some (.slice none 0 0)
theorem MinMem.keep {w wr w' : World} {m : Cv} (h : MinMem w wr m) (hb : Below wr.heap.size wr w') : MinMem w w' m := by
  have hz := h.size
  have hz' := hb.size
  refine ⟨h.below.trans (hb.mono h.below.size), by omega, (hb.cell (p := ⟨w.heap.size + 1, 0, none⟩) ?_).trans h.c0, (hb.cell (p := ⟨w.heap.size + 1, 1, none⟩) ?_).trans h.c1, (hb.cell (p := ⟨w.heap.size + 1, 2, none⟩) ?_).trans h.c2, fun b o h1 h2 => (hb.frozen (p := ⟨b, o, none⟩) ?_).trans (h.fr b o h1 h2), (hb.cell (p := ⟨w.heap.size, 0, none⟩) ?_).trans h.r0, (hb.cell (p := ⟨w.heap.size, 1, none⟩) ?_).trans h.r1, (hb.cell (p := ⟨w.heap.size, 2, none⟩) ?_).trans h.r2⟩
  all_goals (show _ < wr.heap.size; simp only; omega)
theorem MinMem.put {w wr : World} {m : Cv} (h : MinMem w wr m) (v : Cv) : MinMem w (((wr.setCell ⟨w.heap.size + 1, 0, none⟩ (.int .i64 v.w)).setCell ⟨w.heap.size + 1, 1, none⟩ (.int .i64 v.h)).setCell ⟨w.heap.size + 1, 2, none⟩ (.slice v.A v.l.length v.c)) v := by
  have hz := h.size
  have hf := fun o => h.fr (w.heap.size + 1) o (by omega) (by omega)
  refine ⟨((h.below.setCell (by simp) _).setCell (by simp) _).setCell (by simp) _, by simpa using hz, ?_, ?_, ?_, fun b o h1 h2 => ?_, ?_, ?_, ?_⟩
  · simp [go_sem, h.c0]
  · simp [go_sem, h.c1]
  · simp [go_sem, h.c2]
  · have := h.fr b o h1 h2
    simpa [go_sem] using this
  · simp [go_sem, h.r0]
  · simp [go_sem, h.r1]
  · simp [go_sem, h.r2]

end Go.Proofs.Ytebnekicbcdnaaa
