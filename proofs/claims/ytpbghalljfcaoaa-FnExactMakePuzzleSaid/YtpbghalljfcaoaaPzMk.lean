/- PzN, PzP, PzQ, PzR: texts in one. -/
import Derived.Test.YtpbghalljfcaoaaPzL
import Derived.Test.YtpbghalljfcaoaaPz
import Derived.Test.YtpbghalljfcaoaaLast
import Derived.Deep.DeepCutAuto
import Derived.Deep.CutBlock
set_option linter.all false
namespace Go.Proofs.Ytpbghalljfcaoaa
open Go.RowKit

def nxZ (z : Int) : Int := (z * 167 + 2411) % 10007
theorem nxZ_bd {z : Int} (h : 0 ≤ z) : 0 ≤ nxZ z ∧ nxZ z ≤ 10006 := by
  unfold nxZ
  omega
/-- The number that is asked beside a kind, made of z. -/
def askA (C k z : Int) : Int := if k = 1 then z % 3 + 1 else if k = 2 then z % C else z % 4
/-- What is asked at z, and the number behind it. C: the number of cells. -/
def ask (C z : Int) : Sq := if aloneB (nxZ z % 6) then ⟨nxZ z % 6, 0, 0⟩ else ⟨nxZ z % 6, askA C (nxZ z % 6) (nxZ (nxZ z)), 0⟩
def nextZ (z : Int) : Int := if aloneB (nxZ z % 6) then nxZ z else nxZ (nxZ z)
theorem nextZ_bd {z : Int} (h : 0 ≤ z) : 0 ≤ nextZ z ∧ nextZ z ≤ 10006 := by
  unfold nextZ
  have h1 := nxZ_bd h
  split
  · exact h1
  · exact nxZ_bd h1.1
theorem ask_x (C z : Int) : (ask C z).x = nxZ z % 6 := by unfold ask; split <;> rfl
theorem ask_ok {C z : Int} : AskOk (ask C z) := by
  refine ⟨by rw [ask_x]; omega, fun hx => ?_⟩
  rw [ask_x] at hx
  unfold ask
  rw [hx]
  simp only [aloneB, askA]
  simp
  omega
def stZ (seed : Int) : Nat → Int
  | 0 => seed
  | k + 1 => nextZ (stZ seed k)
theorem stZ_bd {seed : Int} (h : 0 ≤ seed ∧ seed ≤ 9999) (k : Nat) : 0 ≤ stZ seed k ∧ stZ seed k ≤ 10006 := by
  induction k with
  | zero => exact ⟨h.1, Int.le_trans h.2 (by decide)⟩
  | succ k ih => exact nextZ_bd ih.1
/-- The first clues that are made. -/
noncomputable def mkL (W H : Int) (L : List Sq) (seed : Int) (k : Nat) : List Sq := (List.range k).map fun i => hasIt W H L (ask (W * H) (stZ seed i))
theorem mkL_len (W H : Int) (L : List Sq) (seed : Int) (k : Nat) : (mkL W H L seed k).length = k := by simp [mkL]
theorem mkL_succ (W H : Int) (L : List Sq) (seed : Int) (k : Nat) : mkL W H L seed (k + 1) = mkL W H L seed k ++ [hasIt W H L (ask (W * H) (stZ seed k))] := by simp [mkL, List.range_succ]
/-- A puzzle may be made. -/
def MkOk (W H : Int) (L : List Sq) (m seed : Int) : Prop := (Good W H L ∧ okP W H = true) ∧ (0 ≤ m ∧ m ≤ 6) ∧ (0 ≤ seed ∧ seed ≤ 9999)
/-- The boxes of a puzzle that is made: the cut's at N, the result's at N + 1, the puzzle's at Bp with a row of the call's own. -/
structure MP (N Bp : Nat) (w V : World) (W H : Int) (A : Option Addr) (n c : Nat) (Ap : Option Addr) (cp : Nat) (R : List Sq) : Prop where
  bel : Below N w V
  lo : N + 2 ≤ Bp
  sz : Bp < V.heap.size
  c0 : V.cell? ⟨N, 0, none⟩ = some (.int .i64 W)
  c1 : V.cell? ⟨N, 1, none⟩ = some (.int .i64 H)
  c2 : V.cell? ⟨N, 2, none⟩ = some (.slice A n c)
  r0 : V.cell? ⟨N + 1, 0, none⟩ = some (.int .i64 0)
  r1 : V.cell? ⟨N + 1, 1, none⟩ = some (.int .i64 0)
  r2 : V.cell? ⟨N + 1, 2, none⟩ = some (.slice none 0 0)
  fr : ∀ o, V.frozen? ⟨N + 1, o, none⟩ = false
  p0 : V.cell? ⟨Bp, 0, none⟩ = some (.int .i64 W)
  p1 : V.cell? ⟨Bp, 1, none⟩ = some (.int .i64 H)
  p2 : V.cell? ⟨Bp, 2, none⟩ = some (.slice Ap R.length cp)
  fp : ∀ o, V.frozen? ⟨Bp, o, none⟩ = false
  own : V.ownsRow (Bp + 1) 25 3 (.slice Ap R.length cp) R.length (flat R)
variable {N Bp : Nat} {w V V' : World} {W H : Int} {A : Option Addr} {n c : Nat} {Ap : Option Addr} {cp : Nat} {R : List Sq}
theorem MP.keep (h : MP N Bp w V W H A n c Ap cp R) (hb : Below V.heap.size V V') : MP N Bp w V' W H A n c Ap cp R := by
  have hs := h.sz
  have hlo := h.lo
  have q : ∀ i o v, i ≤ Bp → V.cell? ⟨i, o, none⟩ = some v → V'.cell? ⟨i, o, none⟩ = some v := fun i o v hi h => (hb.cell (p := ⟨i, o, none⟩) (by show i < _; omega)).trans h
  exact ⟨h.bel.trans (hb.mono (by omega)), h.lo, Nat.lt_of_lt_of_le hs hb.size, q _ _ _ (by omega) h.c0, q _ _ _ (by omega) h.c1, q _ _ _ (by omega) h.c2, q _ _ _ (by omega) h.r0, q _ _ _ (by omega) h.r1, q _ _ _ (by omega) h.r2,
    fun o => (hb.frozen (p := ⟨N + 1, o, none⟩) (by show N + 1 < _; omega)).trans (h.fr o), q _ _ _ (Nat.le_refl _) h.p0, q _ _ _ (Nat.le_refl _) h.p1, q _ _ _ (Nat.le_refl _) h.p2, fun o => (hb.frozen (p := ⟨Bp, o, none⟩) hs).trans (h.fp o), own_keep h.own hb⟩
theorem own_ofB {A C : World} {B e s n : Nat} {v : Value} {xs : List Value} (h : A.ownsRow B e s v n xs) (hb : ∀ k, v.ownBlock = some k → C.heap[k]? = A.heap[k]?) : C.ownsRow B e s v n xs := by
  refine ⟨h.1, ?_⟩
  rcases h.2 with hn | ⟨g, cap, cur, rfl, hg, hh, rest⟩
  · exact .inl hn
  · exact .inr ⟨g, cap, cur, rfl, hg, (hb g rfl).trans hh, rest⟩
/-- A store into another box of the call's own. -/
theorem MP.other (h : MP N Bp w V W H A n c Ap cp R) {b o : Nat} (h1 : N ≤ b) (h2 : b ≠ N) (h3 : b ≠ N + 1) (h4 : b ≠ Bp) (v : Value) (hr : ∀ k, (Value.slice Ap R.length cp).ownBlock = some k → k ≠ b) : MP N Bp w (V.setCell ⟨b, o, none⟩ v) W H A n c Ap cp R := by
  have q : ∀ i j u, i ≠ b → V.cell? ⟨i, j, none⟩ = some u → (V.setCell ⟨b, o, none⟩ v).cell? ⟨i, j, none⟩ = some u := fun i j u hi h => (World.cell?_setCell_other _ _ _ _ (fun e => hi (by cases e; rfl))).trans h
  refine ⟨h.bel.setCell (p := ⟨b, o, none⟩) h1 _, h.lo, by simpa using h.sz, q _ _ _ (Ne.symm h2) h.c0, q _ _ _ (Ne.symm h2) h.c1, q _ _ _ (Ne.symm h2) h.c2, q _ _ _ (Ne.symm h3) h.r0, q _ _ _ (Ne.symm h3) h.r1, q _ _ _ (Ne.symm h3) h.r2, fun o' => by rw [World.frozen?_setCell]; exact h.fr o',
    q _ _ _ (Ne.symm h4) h.p0, q _ _ _ (Ne.symm h4) h.p1, q _ _ _ (Ne.symm h4) h.p2, fun o' => by rw [World.frozen?_setCell]; exact h.fp o', ?_⟩
  exact own_ofB h.own fun k hk => Below.heap_setCell _ _ _ k (hr k hk)
theorem MP.push {w6 : World} {s : Sq} {A6 : Option Addr} {c6 : Nat} (h : MP N Bp w V W H A n c Ap cp R) (hown : w6.ownsRow (Bp + 1) 25 3 (.slice A6 (R.length + 1) c6) (R.length + 1) (flat R ++ [.int .i64 s.x, .int .i64 s.y, .int .i64 s.d])) (hg : V.grownBy w6 (Value.slice Ap R.length cp).ownBlock) :
    MP N Bp w (w6.setCell ⟨Bp, 2, none⟩ (.slice A6 (R.length + 1) c6)) W H A n c A6 c6 (R ++ [s]) := by
  have hs := h.sz
  have hlo := h.lo
  have hne : ∀ i, i ≤ Bp → (Value.slice Ap R.length cp).ownBlock ≠ some i := fun i hi e => by have := (h.own.lt i e).1; omega
  have q : ∀ i j u, i < Bp → V.cell? ⟨i, j, none⟩ = some u → (w6.setCell ⟨Bp, 2, none⟩ (.slice A6 (R.length + 1) c6)).cell? ⟨i, j, none⟩ = some u := fun i j u hi h' => (World.cell?_setCell_other _ _ _ _ (fun e => by have := (Addr.mk.inj e).1; omega)).trans (hg.cell h' (fun e => hne i (by omega) e.symm))
  have hp : ∀ j u, V.cell? ⟨Bp, j, none⟩ = some u → w6.cell? ⟨Bp, j, none⟩ = some u := fun j u h' => hg.cell h' (fun e => hne Bp (Nat.le_refl _) e.symm)
  have f : ∀ i, i ≤ Bp → ∀ o, V.frozen? ⟨i, o, none⟩ = false → (w6.setCell ⟨Bp, 2, none⟩ (.slice A6 (R.length + 1) c6)).frozen? ⟨i, o, none⟩ = false := fun i hi o h' => by
    rw [World.frozen?_setCell]; exact (hg.frozen_far ⟨i, o, none⟩ (by show i < _; omega) (fun e => hne i hi e.symm)).trans h'
  have hlen : (R ++ [s]).length = R.length + 1 := by simp
  have hP := h.p2
  have hr := ownsRow_setCell_below hown (a := ⟨Bp, 2, none⟩) (by show Bp < Bp + 1; omega) (.slice A6 (R.length + 1) c6)
  refine ⟨(h.bel.grown hg (by omega) (fun k hk => by have := (h.own.lt k hk).1; omega)).setCell (p := ⟨Bp, 2, none⟩) (by show N ≤ Bp; omega) _, hlo, by have := hg.size; simp; omega, q _ _ _ (by omega) h.c0, q _ _ _ (by omega) h.c1, q _ _ _ (by omega) h.c2, q _ _ _ (by omega) h.r0, q _ _ _ (by omega) h.r1, q _ _ _ (by omega) h.r2, fun o => f _ (by omega) o (h.fr o), ?_, ?_, ?_, fun o => f _ (Nat.le_refl _) o (h.fp o), ?_⟩
  · exact (World.cell?_setCell_other _ _ _ _ (fun e => by have := (Addr.mk.inj e).2.1; omega)).trans (hp 0 _ h.p0)
  · exact (World.cell?_setCell_other _ _ _ _ (fun e => by have := (Addr.mk.inj e).2.1; omega)).trans (hp 1 _ h.p1)
  · rw [hlen]; exact World.cell?_setCell_same (h := hp 2 _ h.p2) ..
  · rw [hlen, flat_app]; exact hr
theorem nx_wraps {z : Int} (h : 0 ≤ z ∧ z ≤ 10006) : IntKind.i64.wrap (z * 167) = z * 167 ∧ IntKind.i64.wrap (167 * z) = z * 167 ∧ IntKind.i64.wrap (z * 167 + 2411) = z * 167 + 2411 ∧ wrap64 (z * 167) = z * 167 ∧ wrap64 (167 * z) = z * 167 ∧ wrap64 (z * 167 + 2411) = z * 167 + 2411 := by
  have e : (167 : Int) * z = z * 167 := Int.mul_comm _ _
  rw [e]
  refine ⟨IntWalk.i64_in _ (by omega), IntWalk.i64_in _ (by omega), IntWalk.i64_in _ (by omega), ?_, ?_, ?_⟩ <;> exact (IntWalk.i64_left _).symm.trans (IntWalk.i64_in _ (by omega))
theorem next_z (m z : Int) (hz : 0 ≤ z ∧ z ≤ 10006) (hm : 0 < m ∧ m ≤ 36) (b : Nat) (w : World) (hc : w.cell? ⟨b, 0, none⟩ = some (.int .i64 z)) (hf : w.frozen? ⟨b, 0, none⟩ = false) :
    Calls Try.prog 56 #[.int .i64 m, .pointer (some ⟨b, 0, none⟩)] w fun e w' => e = .returned (.int .i64 (nxZ z % m)) ∧ w' = w.setCell ⟨b, 0, none⟩ (.int .i64 (nxZ z)) := by
  obtain ⟨h1, h2, h3, h4, h5, h6⟩ := nx_wraps hz
  have hm0 : m ≠ 0 := by omega
  have hm1 : ¬ m = 0 := hm0
  have hne : ((m : Int) == 0) = false := by simp; omega
  go_enter Try.func56, Try.ntmps56
  go_wp2_with fail
  go_ret
  exact ⟨rfl, rfl⟩
theorem pzNext_any (z : Int) (hz : 0 ≤ z ∧ z ≤ 10006) (w : World) : Calls Try.prog 53 #[.int .i64 z] w fun e w' => e = .returned (.int .i64 (nxZ z)) ∧ w = w' := by
  obtain ⟨h1, h2, h3, h4, h5, h6⟩ := nx_wraps hz
  go_enter Try.func53, Try.ntmps53
  go_wp2_with fail
  go_ret
  exact ⟨rfl, rfl⟩
theorem alone_ask {k a : Int} (h : aloneB k = true) (W H : Int) (L : List Sq) : hasIt W H L ⟨k, 0, 0⟩ = ⟨k, valN W H L k 0, 0⟩ := by unfold hasIt; simp [h]
theorem other_ask {k a : Int} (h : aloneB k = false) (W H : Int) (L : List Sq) : hasIt W H L ⟨k, a, 0⟩ = ⟨k, a, valN W H L k a⟩ := by unfold hasIt; simp [h]
set_option maxRecDepth 100000 in
theorem pzOf_any (k a : Int) (hs : AskOk ⟨k, a, 0⟩) (h0 : aloneB k = true → a = 0) (W H : Int) (A : Option Addr) (n c : Nat) (L : List Sq) (w : World) (hl : L.length = n) (hc : n ≤ c) (hL : SqsAt w w.heap.size A L) (hG : Good W H L) :
    Calls Try.prog 55 #[.int .i64 k, .int .i64 a, .agg #[.int .i64 W, .int .i64 H, .slice A n c]] w fun e w' => e = .returned (.agg #[.int .i64 (hasIt W H L ⟨k, a, 0⟩).x, .int .i64 (hasIt W H L ⟨k, a, 0⟩).y, .int .i64 (hasIt W H L ⟨k, a, 0⟩).d]) ∧ Below w.heap.size w w' := by
  subst hl
  obtain ⟨hk, h3⟩ := hs
  dsimp only at hk h3
  have CA := fun w' => pzAlone_any k w'
  cases ha : aloneB k with
  | true =>
    obtain rfl := h0 ha
    rw [alone_ask (a := 0) ha]
    rw [ha] at CA
    have B0 : Below w.heap.size w ((w.alloc (.cells #[.int .i64 W, .int .i64 H, .slice A L.length c] 47)).alloc (.cells #[.int .i64 0, .int .i64 0, .int .i64 0] 25)) := ((Below.refl _ _).alloc (Nat.le_refl _) _).alloc (by simp) _
    have R0 := Cv3.start (w.alloc (.cells #[.int .i64 W, .int .i64 H, .slice A L.length c] 47)) (.int .i64 0) (.int .i64 0) (.int .i64 0) 25
    have J0 := (Cv3.start w (.int .i64 W) (.int .i64 H) (.slice A L.length c) 47).next ((Below.refl _ _).alloc (Nat.le_refl _) (.cells #[.int .i64 0, .int .i64 0, .int .i64 0] 25))
    rw [World.size_alloc] at R0
    have fz : ∀ o, ((w.alloc (.cells #[.int .i64 W, .int .i64 H, .slice A L.length c] 47)).alloc (.cells #[.int .i64 0, .int .i64 0, .int .i64 0] 25)).frozen? ⟨w.heap.size + 1, o, none⟩ = false := by
      intro o; exact World.frozen?_alloc_at _ _ _ _ (by simp)
    go_enter Try.func55, Try.ntmps55
    go_wp2_with fail
    obtain ⟨W0, hW0⟩ : ∃ W0, W0 = (w.alloc (.cells #[.int .i64 W, .int .i64 H, .slice A L.length c] 47)).alloc (.cells #[.int .i64 0, .int .i64 0, .int .i64 0] 25) := ⟨_, rfl⟩
    rw [← hW0] at B0 R0 J0 fz ⊢
    clear hW0
    obtain ⟨jl, j0, j1, j2⟩ := id J0
    refine (CA _).mono ?_
    rintro e w' ⟨rfl, rfl⟩
    go_wp2_with fail
    refine (pv_any k 0 hk h3 W H A L.length c L W0 rfl hc ((hL.below B0).mono B0.size) hG).mono ?_
    rintro e w2 ⟨rfl, hb⟩
    replace fz := fun o => (hb.frozen (p := ⟨w.heap.size + 1, o, none⟩) R0.lt).trans (fz o)
    replace R0 := R0.next hb
    replace B0 := B0.trans (hb.mono B0.size)
    have f0 := fz 0
    have f1 := fz 1
    have f2 := fz 2
    obtain ⟨rl, r0, r1, r2⟩ := id R0
    clear jl j0 j1 j2 fz hb
    go_wp2_with fail
    refine bodyPost_ret (v := .agg #[.int .i64 k, .int .i64 (valN W H L k 0), .int .i64 0]) (by simp [results, Try.results55, go_sem, r0, r1, r2]) rfl ⟨rfl, ?_⟩
    repeat (first | exact B0 | refine Below.drew ?_ | refine Below.setCell ?_ (by first | exact Nat.le_refl _ | (simp; done) | (simp; omega)) _)
  | false =>
    rw [other_ask ha]
    rw [ha] at CA
    have B0 : Below w.heap.size w ((w.alloc (.cells #[.int .i64 W, .int .i64 H, .slice A L.length c] 47)).alloc (.cells #[.int .i64 0, .int .i64 0, .int .i64 0] 25)) := ((Below.refl _ _).alloc (Nat.le_refl _) _).alloc (by simp) _
    have R0 := Cv3.start (w.alloc (.cells #[.int .i64 W, .int .i64 H, .slice A L.length c] 47)) (.int .i64 0) (.int .i64 0) (.int .i64 0) 25
    have J0 := (Cv3.start w (.int .i64 W) (.int .i64 H) (.slice A L.length c) 47).next ((Below.refl _ _).alloc (Nat.le_refl _) (.cells #[.int .i64 0, .int .i64 0, .int .i64 0] 25))
    rw [World.size_alloc] at R0
    have fz : ∀ o, ((w.alloc (.cells #[.int .i64 W, .int .i64 H, .slice A L.length c] 47)).alloc (.cells #[.int .i64 0, .int .i64 0, .int .i64 0] 25)).frozen? ⟨w.heap.size + 1, o, none⟩ = false := by
      intro o; exact World.frozen?_alloc_at _ _ _ _ (by simp)
    go_enter Try.func55, Try.ntmps55
    go_wp2_with fail
    obtain ⟨W0, hW0⟩ : ∃ W0, W0 = (w.alloc (.cells #[.int .i64 W, .int .i64 H, .slice A L.length c] 47)).alloc (.cells #[.int .i64 0, .int .i64 0, .int .i64 0] 25) := ⟨_, rfl⟩
    rw [← hW0] at B0 R0 J0 fz ⊢
    clear hW0
    obtain ⟨jl, j0, j1, j2⟩ := id J0
    refine (CA _).mono ?_
    rintro e w' ⟨rfl, rfl⟩
    go_wp2_with fail
    refine (pv_any k a hk h3 W H A L.length c L W0 rfl hc ((hL.below B0).mono B0.size) hG).mono ?_
    rintro e w2 ⟨rfl, hb⟩
    replace fz := fun o => (hb.frozen (p := ⟨w.heap.size + 1, o, none⟩) R0.lt).trans (fz o)
    replace R0 := R0.next hb
    replace B0 := B0.trans (hb.mono B0.size)
    have f0 := fz 0
    have f1 := fz 1
    have f2 := fz 2
    obtain ⟨rl, r0, r1, r2⟩ := id R0
    clear jl j0 j1 j2 fz hb
    go_wp2_with fail
    refine bodyPost_ret (v := .agg #[.int .i64 k, .int .i64 a, .int .i64 (valN W H L k a)]) (by simp [results, Try.results55, go_sem, r0, r1, r2]) rfl ⟨rfl, ?_⟩
    repeat (first | exact B0 | refine Below.drew ?_ | refine Below.setCell ?_ (by first | exact Nat.le_refl _ | (simp; done) | (simp; omega)) _)
end Go.Proofs.Ytpbghalljfcaoaa
namespace Go.Proofs.Ytpbghalljfcaoaa
open Go.RowKit

theorem infoCl' : (Try.prog.info? 25).map (fun i => (i.zero, i.size, i.bytes)) = some (some (.agg #[.int .i64 0, .int .i64 0, .int .i64 0]), 3, 24) := by kernel_rfl
/-- z's box. -/
structure ZB (V : World) (b : Nat) (z : Int) : Prop where
  lt : b < V.heap.size
  c : V.cell? ⟨b, 0, none⟩ = some (.int .i64 z)
  f : V.frozen? ⟨b, 0, none⟩ = false
theorem ZB.keep {V V' : World} {b : Nat} {z : Int} (h : ZB V b z) (hb : Below V.heap.size V V') : ZB V' b z :=
  ⟨Nat.lt_of_lt_of_le h.lt hb.size, (hb.cell (p := ⟨b, 0, none⟩) h.lt).trans h.c, (hb.frozen (p := ⟨b, 0, none⟩) h.lt).trans h.f⟩
theorem ZB.put {V : World} {b : Nat} {z : Int} (h : ZB V b z) (v : Int) : ZB (V.setCell ⟨b, 0, none⟩ (.int .i64 v)) b v :=
  ⟨by simpa using h.lt, World.cell?_setCell_same (h := h.c) .., by rw [World.frozen?_setCell]; exact h.f⟩
theorem ZB.other {V : World} {b b' o : Nat} {z : Int} (h : ZB V b z) (hne : b ≠ b') (v : Value) : ZB (V.setCell ⟨b', o, none⟩ v) b z :=
  ⟨by simpa using h.lt, (World.cell?_setCell_other _ _ _ _ (fun e => hne (by cases e; rfl))).trans h.c, by rw [World.frozen?_setCell]; exact h.f⟩
theorem ZB.grown {V V' : World} {b : Nat} {z : Int} {row : Option Nat} (h : ZB V b z) (hg : V.grownBy V' row) (hne : row ≠ some b) : ZB V' b z :=
  ⟨Nat.lt_of_lt_of_le h.lt hg.size, hg.cell h.c (fun e => hne e.symm), (hg.frozen_far ⟨b, 0, none⟩ h.lt (fun e => hne e.symm)).trans h.f⟩
set_option maxRecDepth 100000 in
set_option maxHeartbeats 16000000 in
theorem implMake_yes (W H : Int) (A : Option Addr) (n c : Nat) (L : List Sq) (M : Nat) (seed : Int) (w : World) (hl : L.length = n) (hc : n ≤ c) (hL : SqsAt w w.heap.size A L) (hwf : ∀ s ∈ L, wfS s) (hok : MkOk W H L M seed) :
    Calls Try.prog 29 #[.agg #[.int .i64 W, .int .i64 H, .slice A n c], .int .i64 M, .int .i64 seed] w (RetPuzzle w W H (mkL W H L seed M) true) := by
  subst hl
  obtain ⟨hH, hm, hsd⟩ := hok
  obtain ⟨i0, hi, hz0, hz1, hz2⟩ := info_parts infoCl'
  have hmf : ∀ (fn : Fn) (first cap : Array Value) (w : World), (Instr.makeFunc fn first cap).run Try.prog w = .ok (.func fn first cap) w := fun _ _ _ _ => rfl
  have hcells := okP_size hH.2
  obtain ⟨C, hC⟩ : ∃ C, W * H = C := ⟨_, rfl⟩
  rw [hC] at hcells
  have hwC : IntKind.i64.wrap (W * H) = C := by rw [hC]; exact IntWalk.i64_in _ (by omega)
  have HH := Lib.hid hH
  have HCC := Lib.hid hC
  have HSD := Lib.hid hsd
  have B0 : Below w.heap.size w ((w.alloc (.cells #[.int .i64 W, .int .i64 H, .slice A L.length c] 47)).alloc (.cells #[.int .i64 0, .int .i64 0, .slice none 0 0] 35)) := ((Below.refl _ _).alloc (Nat.le_refl _) _).alloc (by simp) _
  have R0 := Cv3.start (w.alloc (.cells #[.int .i64 W, .int .i64 H, .slice A L.length c] 47)) (.int .i64 0) (.int .i64 0) (.slice none 0 0) 35
  have J0 := (Cv3.start w (.int .i64 W) (.int .i64 H) (.slice A L.length c) 47).next ((Below.refl _ _).alloc (Nat.le_refl _) (.cells #[.int .i64 0, .int .i64 0, .slice none 0 0] 35))
  rw [World.size_alloc] at R0
  have fz : ∀ o, ((w.alloc (.cells #[.int .i64 W, .int .i64 H, .slice A L.length c] 47)).alloc (.cells #[.int .i64 0, .int .i64 0, .slice none 0 0] 35)).frozen? ⟨w.heap.size + 1, o, none⟩ = false := by
    intro o; exact World.frozen?_alloc_at _ _ _ _ (by simp)
  clear hH hC
  go_enter Try.func29, Try.ntmps29
  go_wp2_with fail
  obtain ⟨W0, hW0⟩ : ∃ W0, W0 = (w.alloc (.cells #[.int .i64 W, .int .i64 H, .slice A L.length c] 47)).alloc (.cells #[.int .i64 0, .int .i64 0, .slice none 0 0] 35) := ⟨_, rfl⟩
  rw [← hW0] at B0 R0 J0 fz ⊢
  clear hW0
  refine (callB_yes (isHidden_any W H A L.length c L W0 rfl hc ((hL.below B0).mono B0.size) hwf) HH.out).mono ?_
  rintro e w1 ⟨rfl, hb⟩
  replace fz := fun o => (hb.frozen (p := ⟨w.heap.size + 1, o, none⟩) R0.lt).trans (fz o)
  replace R0 := R0.next hb
  replace J0 := J0.next hb
  replace B0 := B0.trans (hb.mono B0.size)
  clear hb
  obtain ⟨jl, j0, j1, j2⟩ := id J0
  go_wp2_with fail
  clear jl j0 j1 j2
  have hN2 : w.heap.size + 2 ≤ w1.heap.size := by have := R0.lt; omega
  obtain ⟨W2, hW2⟩ : ∃ W2, W2 = (w1.alloc (.cells #[.int .i64 seed] 3)).alloc (.cells #[.int .i64 W, .int .i64 H, .slice none 0 0] 35) := ⟨_, rfl⟩
  have hb : Below w1.heap.size w1 W2 := by rw [hW2]; exact ((Below.refl _ _).alloc (Nat.le_refl _) _).alloc (by simp) _
  have Z0 : ZB W2 w1.heap.size (stZ seed 0) := by
    rw [hW2]
    refine ⟨by simp; omega, ?_, ?_⟩
    · rw [World.cell?_alloc_lt _ _ _ (by simp)]; simp [go_sem, stZ]
    · exact (((Below.refl (w1.alloc (.cells #[.int .i64 seed] 3)).heap.size _).alloc (Nat.le_refl _) _).frozen (p := ⟨w1.heap.size, 0, none⟩) (by simp)).trans (World.frozen?_alloc_at _ _ _ _ rfl)
  have M0 : MP w.heap.size (w1.heap.size + 1) w W2 W H A L.length c none 0 (mkL W H L seed 0) := by
    replace fz := fun o => (hb.frozen (p := ⟨w.heap.size + 1, o, none⟩) R0.lt).trans (fz o)
    replace R0 := R0.next hb
    replace J0 := J0.next hb
    have P0 := Cv3.start (w1.alloc (.cells #[.int .i64 seed] 3)) (.int .i64 W) (.int .i64 H) (.slice none 0 0) 35
    rw [World.size_alloc, ← hW2] at P0
    refine ⟨B0.trans (hb.mono B0.size), by omega, by rw [hW2]; simp, J0.c0, J0.c1, J0.c2, R0.c0, R0.c1, R0.c2, fz, P0.c0, P0.c1, P0.c2, fun o => ?_, World.ownsRow_nil _ _ _ _⟩
    rw [hW2]; exact World.frozen?_alloc_at _ _ _ _ (by simp)
  rw [← hW2]
  clear hW2 fz R0 J0 hb B0
  go_loopw [40] (fun i wr => ∃ (k : Nat) (Ap : Option Addr) (cp : Nat), k ≤ M ∧ i = .int .i64 k ∧ MP w.heap.size (w1.heap.size + 1) w wr W H A L.length c Ap cp (mkL W H L seed k) ∧ ZB wr w1.heap.size (stZ seed k)) (fun i _ => M - (intOf i).toNat)
  case atStart => exact ⟨0, none, 0, Nat.zero_le _, rfl, M0, Z0⟩
  case round =>
    clear M0 Z0
    obtain ⟨k, Ap, cp, hk, rfl, hM, hZ⟩ := hrel
    by_cases hlt : k < M
    · have hzb := stZ_bd HSD.out k
      obtain ⟨z, hzz⟩ : ∃ z, stZ seed k = z := ⟨_, rfl⟩
      have hst : stZ seed (k + 1) = nextZ z := by rw [← hzz]; rfl
      have hmk := mkL_succ W H L seed k
      rw [hzz] at hmk hZ hzb
      rw [HCC.out] at hmk
      have hRl := mkL_len W H L seed k
      obtain ⟨R, hR⟩ : ∃ R, mkL W H L seed k = R := ⟨_, rfl⟩
      rw [hR] at hmk hRl hM
      have HST := Lib.hid hst
      have HMK := Lib.hid hmk
      have HRL := Lib.hid hRl
      clear hst hmk hzz hR hRl
      have zc := hZ.c
      have zl := hZ.lt
      go_wp2_with fail
      refine (next_z 6 z hzb (by omega) _ wr hZ.c hZ.f).mono ?_
      rintro e w2 ⟨rfl, hw2⟩
      clear zc zl
      have hon : ∀ k, (Value.slice Ap R.length cp).ownBlock = some k → w1.heap.size + 2 ≤ k := fun k hk => (hM.own.lt k hk).1
      have hM2 : MP w.heap.size (w1.heap.size + 1) w w2 W H A L.length c Ap cp R := by rw [hw2]; exact hM.other (by omega) (by omega) (by omega) (by omega) _ (fun k hk => by have := hon k hk; omega)
      have hZ2 : ZB w2 w1.heap.size (nxZ z) := by rw [hw2]; exact hZ.put _
      clear hw2 hM hZ
      go_upto_block 2 with fail
      obtain ⟨kk, hkk⟩ : ∃ kk, nxZ z % 6 = kk := ⟨_, rfl⟩
      have hk6 : 0 ≤ kk ∧ kk ≤ 5 := by omega
      obtain ⟨W3, hW3⟩ : ∃ W3, W3 = w2.alloc (.cells #[.int .i64 kk, .int .i64 0, .int .i64 0] 25) := ⟨_, rfl⟩
      have hb3 : Below w2.heap.size w2 W3 := by rw [hW3]; exact (Below.refl _ _).alloc (Nat.le_refl _) _
      have K3 : Cv3 w2.heap.size W3 (.int .i64 kk) (.int .i64 0) (.int .i64 0) := by rw [hW3]; exact Cv3.start _ _ _ _ _
      have K3f : W3.frozen? ⟨w2.heap.size, 1, none⟩ = false := by rw [hW3]; exact World.frozen?_alloc_at _ _ _ _ rfl
      have M3 := hM2.keep hb3
      have Z3 := hZ2.keep hb3
      have hon3 : ∀ k, (Value.slice Ap R.length cp).ownBlock = some k → k < w2.heap.size := fun k hk => (hM2.own.lt k hk).2
      have hz2l := hZ2.lt
      have hm2l := hM2.sz
      rw [hkk, ← hW3]
      clear hW3 hb3
      have hq1 : (ask C z) = (if aloneB kk then ⟨kk, 0, 0⟩ else ⟨kk, askA C kk (nxZ (nxZ z)), 0⟩) := by unfold ask; rw [hkk]
      have hq2 : nextZ z = if aloneB kk then nxZ z else nxZ (nxZ z) := by unfold nextZ; rw [hkk]
      have hok := ask_ok (C := C) (z := z)
      obtain ⟨q, hq⟩ : ∃ q, ask C z = q := ⟨_, rfl⟩
      obtain ⟨z', hz'⟩ : ∃ z', nextZ z = z' := ⟨_, rfl⟩
      rw [hq] at hq1 hok
      rw [hz'] at hq2
      have HQ := Lib.hid hq
      have HZ' := Lib.hid hz'
      have HQ1 := Lib.hid hq1
      have HQ2 := Lib.hid hq2
      have hnb := nxZ_bd hzb.1
      clear hq hz' hq1 hq2 hM2 hZ2 hkk
      go_cut [] (fun wx => MP w.heap.size (w1.heap.size + 1) w wx W H A L.length c Ap cp R ∧ ZB wx w1.heap.size z' ∧ Cv3 w2.heap.size wx (.int .i64 q.x) (.int .i64 q.y) (.int .i64 q.d) ∧ w2.heap.size < wx.heap.size)
      case first =>
        rcases (by omega : kk = 0 ∨ kk = 1 ∨ kk = 2 ∨ kk = 3 ∨ kk = 4 ∨ kk = 5) with rfl | rfl | rfl | rfl | rfl | rfl
        · have e1 : q = ⟨0, 0, 0⟩ := HQ1.out
          have e2 : z' = nxZ z := HQ2.out
          go_wp2_with fail
          go_meet
          exact ⟨M3, by rw [e2]; exact Z3, by rw [e1]; exact K3, K3.lt⟩
        · have e1 : q = ⟨1, nxZ (nxZ z) % 3 + 1, 0⟩ := HQ1.out
          have e2 : z' = nxZ (nxZ z) := HQ2.out
          obtain ⟨jl, j0, j1, j2⟩ := And.intro M3.sz (And.intro M3.c0 (And.intro M3.c1 M3.c2))
          go_wp2_with fail
          refine (next_z 3 (nxZ z) hnb (by omega) _ W3 Z3.c Z3.f).mono ?_
          rintro e w4 ⟨rfl, hw4⟩
          have M4 : MP w.heap.size (w1.heap.size + 1) w w4 W H A L.length c Ap cp R := by rw [hw4]; exact M3.other (by omega) (by omega) (by omega) (by omega) _ (fun k hk => by have := hon k hk; omega)
          have Z4 : ZB w4 w1.heap.size (nxZ (nxZ z)) := by rw [hw4]; exact Z3.put _
          have k0 : w4.cell? ⟨w2.heap.size, 0, none⟩ = some (.int .i64 1) := by rw [hw4]; exact (World.cell?_setCell_other _ _ _ _ (fun e => by have := (Addr.mk.inj e).1; omega)).trans K3.c0
          have k1 : w4.cell? ⟨w2.heap.size, 1, none⟩ = some (.int .i64 0) := by rw [hw4]; exact (World.cell?_setCell_other _ _ _ _ (fun e => by have := (Addr.mk.inj e).1; omega)).trans K3.c1
          have k2 : w4.cell? ⟨w2.heap.size, 2, none⟩ = some (.int .i64 0) := by rw [hw4]; exact (World.cell?_setCell_other _ _ _ _ (fun e => by have := (Addr.mk.inj e).1; omega)).trans K3.c2
          have k4 : w4.frozen? ⟨w2.heap.size, 1, none⟩ = false := by rw [hw4, World.frozen?_setCell]; exact K3f
          have k5 : w2.heap.size < w4.heap.size := by rw [hw4]; simpa using K3.lt
          clear hw4 j0 j1 j2 jl
          go_wp2_with fail
          go_meet
          refine ⟨M4.other (by omega) (by omega) (by omega) (by omega) _ (fun k hk => by have := hon3 k hk; omega), by rw [e2]; exact Z4.other (by omega) _, ?_, by simpa using k5⟩
          rw [e1]
          exact ⟨by simpa using k5, (World.cell?_setCell_other _ _ _ _ (fun e => by have := (Addr.mk.inj e).2.1; omega)).trans k0, World.cell?_setCell_same (h := k1) .., (World.cell?_setCell_other _ _ _ _ (fun e => by have := (Addr.mk.inj e).2.1; omega)).trans k2⟩
        · have e1 : q = ⟨2, nxZ (nxZ z) % C, 0⟩ := HQ1.out
          have e2 : z' = nxZ (nxZ z) := HQ2.out
          obtain ⟨jl, j0, j1, j2⟩ := And.intro M3.sz (And.intro M3.c0 (And.intro M3.c1 M3.c2))
          go_wp2_with fail
          refine (next_z C (nxZ z) hnb (by omega) _ W3 Z3.c Z3.f).mono ?_
          rintro e w4 ⟨rfl, hw4⟩
          have M4 : MP w.heap.size (w1.heap.size + 1) w w4 W H A L.length c Ap cp R := by rw [hw4]; exact M3.other (by omega) (by omega) (by omega) (by omega) _ (fun k hk => by have := hon k hk; omega)
          have Z4 : ZB w4 w1.heap.size (nxZ (nxZ z)) := by rw [hw4]; exact Z3.put _
          have k0 : w4.cell? ⟨w2.heap.size, 0, none⟩ = some (.int .i64 2) := by rw [hw4]; exact (World.cell?_setCell_other _ _ _ _ (fun e => by have := (Addr.mk.inj e).1; omega)).trans K3.c0
          have k1 : w4.cell? ⟨w2.heap.size, 1, none⟩ = some (.int .i64 0) := by rw [hw4]; exact (World.cell?_setCell_other _ _ _ _ (fun e => by have := (Addr.mk.inj e).1; omega)).trans K3.c1
          have k2 : w4.cell? ⟨w2.heap.size, 2, none⟩ = some (.int .i64 0) := by rw [hw4]; exact (World.cell?_setCell_other _ _ _ _ (fun e => by have := (Addr.mk.inj e).1; omega)).trans K3.c2
          have k4 : w4.frozen? ⟨w2.heap.size, 1, none⟩ = false := by rw [hw4, World.frozen?_setCell]; exact K3f
          have k5 : w2.heap.size < w4.heap.size := by rw [hw4]; simpa using K3.lt
          clear hw4 j0 j1 j2 jl
          go_wp2_with fail
          go_meet
          refine ⟨M4.other (by omega) (by omega) (by omega) (by omega) _ (fun k hk => by have := hon3 k hk; omega), by rw [e2]; exact Z4.other (by omega) _, ?_, by simpa using k5⟩
          rw [e1]
          exact ⟨by simpa using k5, (World.cell?_setCell_other _ _ _ _ (fun e => by have := (Addr.mk.inj e).2.1; omega)).trans k0, World.cell?_setCell_same (h := k1) .., (World.cell?_setCell_other _ _ _ _ (fun e => by have := (Addr.mk.inj e).2.1; omega)).trans k2⟩
        · have e1 : q = ⟨3, nxZ (nxZ z) % 4, 0⟩ := HQ1.out
          have e2 : z' = nxZ (nxZ z) := HQ2.out
          obtain ⟨jl, j0, j1, j2⟩ := And.intro M3.sz (And.intro M3.c0 (And.intro M3.c1 M3.c2))
          go_wp2_with fail
          refine (next_z 4 (nxZ z) hnb (by omega) _ W3 Z3.c Z3.f).mono ?_
          rintro e w4 ⟨rfl, hw4⟩
          have M4 : MP w.heap.size (w1.heap.size + 1) w w4 W H A L.length c Ap cp R := by rw [hw4]; exact M3.other (by omega) (by omega) (by omega) (by omega) _ (fun k hk => by have := hon k hk; omega)
          have Z4 : ZB w4 w1.heap.size (nxZ (nxZ z)) := by rw [hw4]; exact Z3.put _
          have k0 : w4.cell? ⟨w2.heap.size, 0, none⟩ = some (.int .i64 3) := by rw [hw4]; exact (World.cell?_setCell_other _ _ _ _ (fun e => by have := (Addr.mk.inj e).1; omega)).trans K3.c0
          have k1 : w4.cell? ⟨w2.heap.size, 1, none⟩ = some (.int .i64 0) := by rw [hw4]; exact (World.cell?_setCell_other _ _ _ _ (fun e => by have := (Addr.mk.inj e).1; omega)).trans K3.c1
          have k2 : w4.cell? ⟨w2.heap.size, 2, none⟩ = some (.int .i64 0) := by rw [hw4]; exact (World.cell?_setCell_other _ _ _ _ (fun e => by have := (Addr.mk.inj e).1; omega)).trans K3.c2
          have k4 : w4.frozen? ⟨w2.heap.size, 1, none⟩ = false := by rw [hw4, World.frozen?_setCell]; exact K3f
          have k5 : w2.heap.size < w4.heap.size := by rw [hw4]; simpa using K3.lt
          clear hw4 j0 j1 j2 jl
          go_wp2_with fail
          go_meet
          refine ⟨M4.other (by omega) (by omega) (by omega) (by omega) _ (fun k hk => by have := hon3 k hk; omega), by rw [e2]; exact Z4.other (by omega) _, ?_, by simpa using k5⟩
          rw [e1]
          exact ⟨by simpa using k5, (World.cell?_setCell_other _ _ _ _ (fun e => by have := (Addr.mk.inj e).2.1; omega)).trans k0, World.cell?_setCell_same (h := k1) .., (World.cell?_setCell_other _ _ _ _ (fun e => by have := (Addr.mk.inj e).2.1; omega)).trans k2⟩
        · have e1 : q = ⟨4, 0, 0⟩ := HQ1.out
          have e2 : z' = nxZ z := HQ2.out
          go_wp2_with fail
          go_meet
          exact ⟨M3, by rw [e2]; exact Z3, by rw [e1]; exact K3, K3.lt⟩
        · have e1 : q = ⟨5, 0, 0⟩ := HQ1.out
          have e2 : z' = nxZ z := HQ2.out
          go_wp2_with fail
          go_meet
          exact ⟨M3, by rw [e2]; exact Z3, by rw [e1]; exact K3, K3.lt⟩
      case rest =>
        obtain ⟨MC, ZC, KC, hlc⟩ := hcut
        obtain ⟨r, hr⟩ : ∃ r, hasIt W H L q = r := ⟨_, rfl⟩
        have HR := Lib.hid hr
        have C1 : ∀ w', Below wc.heap.size wc w' → Calls Try.prog 44 #[.agg #[.int .i64 q.x, .int .i64 q.y, .int .i64 q.d], .agg #[.int .i64 W, .int .i64 H, .slice A L.length c]] w' fun e w2 => e = .returned (.agg #[.int .i64 r.x, .int .i64 r.y, .int .i64 r.d]) ∧ Below w'.heap.size w' w2 := fun w' hb => by
          rw [← hr]
          have hB := MC.bel.trans (hb.mono MC.bel.size)
          exact asCut_any q W H A L.length c L w' rfl hc ((hL.below hB).mono hB.size) hwf HH.out.1 hok
        have HS : ∀ w', Below wc.heap.size wc w' → w'.cell? ⟨w1.heap.size + 1, 2, none⟩ = some (.slice Ap R.length cp) ∧ w'.cell? ⟨w2.heap.size, 0, none⟩ = some (.int .i64 q.x) ∧ w'.cell? ⟨w2.heap.size, 1, none⟩ = some (.int .i64 q.y) ∧ w'.cell? ⟨w2.heap.size, 2, none⟩ = some (.int .i64 q.d) ∧ w'.cell? ⟨w.heap.size, 0, none⟩ = some (.int .i64 W) ∧ w'.cell? ⟨w.heap.size, 1, none⟩ = some (.int .i64 H) ∧ w'.cell? ⟨w.heap.size, 2, none⟩ = some (.slice A L.length c) := fun w' hb => by
          have M := MC.keep hb
          have K := KC.next hb
          exact ⟨M.p2, K.c0, K.c1, K.c2, M.c0, M.c1, M.c2⟩
        have hk1 : R.length + 1 ≤ maxLen := by have := HRL.out; unfold maxLen; omega
        have hk2 : (R.length + 1) * 24 ≤ 140737488355328 := by have := HRL.out; omega
        have HMC := Lib.hid MC
        have HZC := Lib.hid ZC
        clear hr MC ZC KC hL
        go_wp2_with fail
        refine wp_region_top 7 (fun w' => w'.cell? ⟨w1.heap.size + 1, 2, none⟩ = some (.slice Ap R.length cp) ∧ w'.cell? ⟨w2.heap.size, 0, none⟩ = some (.int .i64 q.x) ∧ w'.cell? ⟨w2.heap.size, 1, none⟩ = some (.int .i64 q.y) ∧ w'.cell? ⟨w2.heap.size, 2, none⟩ = some (.int .i64 q.d) ∧ w'.cell? ⟨w.heap.size, 0, none⟩ = some (.int .i64 W) ∧ w'.cell? ⟨w.heap.size, 1, none⟩ = some (.int .i64 H) ∧ w'.cell? ⟨w.heap.size, 2, none⟩ = some (.slice A L.length c)) (by kernel_rfl) (HS _ ((Below.refl _ _).drew)) (fun hHeld => ?_)
        refine wpTop.take 0 (v := ?_) rfl (by kernel_rfl) (by kernel_rfl) (by kernel_rfl) (by kernel_rfl) (fun _ _ _ h => h) (Or.inl ⟨by rfl, ?_⟩) (by assumption) ?_
        rotate_left
        · intro w hSw; (try dsimp only at hSw); go_simp; try (with_reducible rfl)
        try simp only [Act.put, List.getElem_toArray, List.getElem_cons_zero, List.getElem_cons_succ, List.setIfInBounds_toArray, List.set_cons_zero, List.set_cons_succ]
        refine wpTop.take 1 (v := ?_) rfl (by kernel_rfl) (by kernel_rfl) (by kernel_rfl) (by kernel_rfl) (fun _ _ _ h => h) (Or.inl ⟨by rfl, ?_⟩) (by assumption) ?_
        rotate_left
        · intro w hSw; (try dsimp only at hSw); go_simp; try (with_reducible rfl)
        try simp only [Act.put, List.getElem_toArray, List.getElem_cons_zero, List.getElem_cons_succ, List.setIfInBounds_toArray, List.set_cons_zero, List.set_cons_succ]
        refine wpTop.take 2 (v := ?_) rfl (by kernel_rfl) (by kernel_rfl) (by kernel_rfl) (by kernel_rfl) (fun _ _ _ h => h) (Or.inl ⟨by rfl, ?_⟩) (by assumption) ?_
        rotate_left
        · intro w hSw; (try dsimp only at hSw); go_simp; try (with_reducible rfl)
        try simp only [Act.put, List.getElem_toArray, List.getElem_cons_zero, List.getElem_cons_succ, List.setIfInBounds_toArray, List.set_cons_zero, List.set_cons_succ]
        refine wpTop.take 3 (v := ?_) rfl (by kernel_rfl) (by kernel_rfl) (by kernel_rfl) (by kernel_rfl) (fun _ _ _ h => h) (Or.inl ⟨by rfl, ?_⟩) (by assumption) ?_
        rotate_left
        · intro w hSw; (try dsimp only at hSw); go_simp; try (with_reducible rfl)
        try simp only [Act.put, List.getElem_toArray, List.getElem_cons_zero, List.getElem_cons_succ, List.setIfInBounds_toArray, List.set_cons_zero, List.set_cons_succ]
        refine wpTop.one 4 rfl (by kernel_rfl) (fun K hK => ?_)
        go_simp
        (with_reducible refine (C1 _ ((Below.refl _ _).drew)).mono ?_)
        rintro e w4 ⟨rfl, hb4'⟩
        have hb4 : Below wc.heap.size wc w4 := ((Below.refl wc.heap.size wc).drew).trans hb4'
        clear hb4'
        refine hK.out _ _ (fun _ => HS _ hb4) (fun hH => ?_)
        clear hK K
        have hHeld := hH (by decide)
        clear hH
        try simp only [Act.put, List.getElem_toArray, List.getElem_cons_zero, List.getElem_cons_succ, List.setIfInBounds_toArray, List.set_cons_zero, List.set_cons_succ]
        have M4 := HMC.out.keep hb4
        have ws4 := M4.own
        have hz4 := hb4.size
        refine wpTop.one 5 rfl (by kernel_rfl) (fun K hK => ?_)
        go_simp
        refine hK.out _ _ (fun _ => HS _ (hb4.alloc hz4 _)) (fun hH => ?_)
        clear hK K
        have hHeld := hH (by decide)
        clear hH
        try simp only [Act.put, List.getElem_toArray, List.getElem_cons_zero, List.getElem_cons_succ, List.setIfInBounds_toArray, List.set_cons_zero, List.set_cons_succ]
        refine wpTop.one 6 rfl (by kernel_rfl) (fun K hK => ?_)
        refine app_step rfl _ _ _ rfl (w1.heap.size + 1 + 1) 25 i0 (.agg #[.int .i64 0, .int .i64 0, .int .i64 0]) 3 24 Try.underlying33 hi hz0 hz1 hz2 rfl (by decide) (.slice Ap R.length cp) R.length _ rfl (ws4.alloc _) (some ⟨w4.heap.size, 0, none⟩) 1 1 [.int .i64 r.x, .int .i64 r.y, .int .i64 r.d] rfl rfl (.inr ⟨_, rfl, new3 _ _ _ _ _⟩) (one3 _ _ _) hk1 hk2 (by have := M4.sz; simp; omega) ?_
        intro v' w6 hown6 hgrow hv6
        obtain ⟨A6, c6, rfl⟩ := own_val hown6
        have M5 := M4.keep ((Below.refl w4.heap.size w4).alloc (Nat.le_refl _) (.cells #[.int .i64 r.x, .int .i64 r.y, .int .i64 r.d] 25))
        have Z5 := (HZC.out.keep hb4).keep ((Below.refl w4.heap.size w4).alloc (Nat.le_refl _) (.cells #[.int .i64 r.x, .int .i64 r.y, .int .i64 r.d] 25))
        have hne : ∀ i, i < w1.heap.size + 2 → (Value.slice Ap R.length cp).ownBlock ≠ some i := fun i hi e => by have := hon i e; omega
        have hne2 : (Value.slice Ap R.length cp).ownBlock ≠ some w2.heap.size := fun e => Nat.lt_irrefl _ (hon3 _ e)
        have HS5 := HS _ (hb4.alloc hz4 (.cells #[.int .i64 r.x, .int .i64 r.y, .int .i64 r.d] 25))
        have fz : ∀ i o u, (Value.slice Ap R.length cp).ownBlock ≠ some i → (w4.alloc (.cells #[.int .i64 r.x, .int .i64 r.y, .int .i64 r.d] 25)).cell? ⟨i, o, none⟩ = some u → w6.cell? ⟨i, o, none⟩ = some u := fun i o u hi h => hgrow.cell h (fun e => hi e.symm)
        have HS6 : w6.cell? ⟨w1.heap.size + 1, 2, none⟩ = some (.slice Ap R.length cp) ∧ w6.cell? ⟨w2.heap.size, 0, none⟩ = some (.int .i64 q.x) ∧ w6.cell? ⟨w2.heap.size, 1, none⟩ = some (.int .i64 q.y) ∧ w6.cell? ⟨w2.heap.size, 2, none⟩ = some (.int .i64 q.d) ∧ w6.cell? ⟨w.heap.size, 0, none⟩ = some (.int .i64 W) ∧ w6.cell? ⟨w.heap.size, 1, none⟩ = some (.int .i64 H) ∧ w6.cell? ⟨w.heap.size, 2, none⟩ = some (.slice A L.length c) := ⟨fz _ _ _ (hne _ (by omega)) HS5.1, fz _ _ _ hne2 HS5.2.1, fz _ _ _ hne2 HS5.2.2.1, fz _ _ _ hne2 HS5.2.2.2.1, fz _ _ _ (hne _ (by omega)) HS5.2.2.2.2.1, fz _ _ _ (hne _ (by omega)) HS5.2.2.2.2.2.1, fz _ _ _ (hne _ (by omega)) HS5.2.2.2.2.2.2⟩
        have M8 := M5.push (s := r) hown6 hgrow
        have Z8 : ZB (w6.setCell ⟨w1.heap.size + 1, 2, none⟩ (.slice A6 (R.length + 1) c6)) w1.heap.size z' := (Z5.grown hgrow (hne _ (by omega))).other (by omega) _
        have f6 := M5.fp 2
        have g6 : w6.frozen? ⟨w1.heap.size + 1, 2, none⟩ = false := (hgrow.frozen_far ⟨w1.heap.size + 1, 2, none⟩ M5.sz (fun e => hne (w1.heap.size + 1) (by omega) e.symm)).trans f6
        refine hK.out _ _ (fun _ => HS6) (fun hH => ?_)
        clear hK K
        have hHeld := hH (by decide)
        clear hH
        try simp only [Act.put, List.getElem_toArray, List.getElem_cons_zero, List.getElem_cons_succ, List.setIfInBounds_toArray, List.set_cons_zero, List.set_cons_succ]
        refine wpTop.one 7 rfl (by kernel_rfl) (fun K hK => ?_)
        go_simp
        refine hK.out _ _ (fun h => absurd h (by decide)) (fun hH => ?_)
        clear hK K
        clear hH
        try simp only [Act.put, List.getElem_toArray, List.getElem_cons_zero, List.getElem_cons_succ, List.setIfInBounds_toArray, List.set_cons_zero, List.set_cons_succ]
        refine wpTop.one 8 rfl (by kernel_rfl) (fun K hK => ?_)
        have e6 := HS6.1
        go_simp
        refine hK.out _ _ (fun h => absurd h (by decide)) (fun hH => ?_)
        clear hK K
        clear hH
        try simp only [Act.put, List.getElem_toArray, List.getElem_cons_zero, List.getElem_cons_succ, List.setIfInBounds_toArray, List.set_cons_zero, List.set_cons_succ]
        refine wpTop.all (by kernel_rfl) ?_ _
        have HM8 := Lib.hid M8
        have HZ8 := Lib.hid Z8
        clear M8 Z8 M5 Z5 M4 HS HS5 HS6 hown6 hgrow hv6 fz ws4 hb4
        go_wp2_with fail
        go_roundw
        case rel => exact ⟨k + 1, A6, c6, by omega, by go_num, by rw [HMK.out, HQ.out, HR.out]; exact HM8.out, by rw [HST.out, HZ'.out]; exact HZ8.out⟩
        case measure => simp [intOf]; omega
    · obtain rfl : k = M := by omega
      obtain ⟨R, hR⟩ : ∃ R, mkL W H L seed k = R := ⟨_, rfl⟩
      rw [hR] at hM ⊢
      obtain ⟨p0, p1, p2⟩ := And.intro hM.p0 (And.intro hM.p1 hM.p2)
      obtain ⟨r0, r1, r2⟩ := And.intro hM.r0 (And.intro hM.r1 hM.r2)
      have t0 := hM.fr 0
      have t1 := hM.fr 1
      have t2 := hM.fr 2
      have hne : w.heap.size + 1 < w1.heap.size + 1 + 1 := by omega
      have HM := Lib.hid hM
      have HR0 := Lib.hid hR
      clear hM hR hZ hL
      go_wp2_with fail
      refine bodyPost_ret (v := .tuple #[.agg #[.int .i64 W, .int .i64 H, .slice Ap R.length cp], .bool true]) (by simp [results, Try.results29, go_sem, r0, r1, r2]) rfl ?_
      rw [HR0.out]
      have hM := HM.out
      have R1 := own_base (ownsRow_setCell_below (ownsRow_setCell_below (ownsRow_setCell_below hM.own (a := ⟨w.heap.size + 1, 0, none⟩) hne (.int .i64 W)) (a := ⟨w.heap.size + 1, 1, none⟩) hne (.int .i64 H)) (a := ⟨w.heap.size + 1, 2, none⟩) hne (.slice Ap R.length cp)) (show w.heap.size ≤ w1.heap.size + 1 + 1 by omega)
      exact RetPuzzle.mk rfl R1 (((hM.bel.setCell (p := ⟨w.heap.size + 1, 0, none⟩) (by simp) _).setCell (p := ⟨w.heap.size + 1, 1, none⟩) (by simp) _).setCell (p := ⟨w.heap.size + 1, 2, none⟩) (by simp) _)
theorem implMake_no (W H : Int) (A : Option Addr) (n c : Nat) (L : List Sq) (m seed : Int) (w : World) (hl : L.length = n) (hc : n ≤ c) (hL : SqsAt w w.heap.size A L) (hwf : ∀ s ∈ L, wfS s) (hno : ¬ MkOk W H L m seed) :
    Calls Try.prog 29 #[.agg #[.int .i64 W, .int .i64 H, .slice A n c], .int .i64 m, .int .i64 seed] w (RetPuzzle w 0 0 [] false) := by
  subst hl
  have B0 : Below w.heap.size w ((w.alloc (.cells #[.int .i64 W, .int .i64 H, .slice A L.length c] 47)).alloc (.cells #[.int .i64 0, .int .i64 0, .slice none 0 0] 35)) := ((Below.refl _ _).alloc (Nat.le_refl _) _).alloc (by simp) _
  have R0 := Cv3.start (w.alloc (.cells #[.int .i64 W, .int .i64 H, .slice A L.length c] 47)) (.int .i64 0) (.int .i64 0) (.slice none 0 0) 35
  rw [World.size_alloc] at R0
  have fz : ∀ o, ((w.alloc (.cells #[.int .i64 W, .int .i64 H, .slice A L.length c] 47)).alloc (.cells #[.int .i64 0, .int .i64 0, .slice none 0 0] 35)).frozen? ⟨w.heap.size + 1, o, none⟩ = false := by
    intro o; exact World.frozen?_alloc_at _ _ _ _ (by simp)
  have C := isHidden_any W H A L.length c L _ rfl hc ((hL.below B0).mono B0.size) hwf
  have fin : ∀ (w2 : World), Below w.heap.size w w2 → RetPuzzle w 0 0 [] false (.returned (.tuple #[.agg #[.int .i64 0, .int .i64 0, .slice none 0 0], .bool false])) (((w2.setCell ⟨w.heap.size + 1, 0, none⟩ (.int .i64 0)).setCell ⟨w.heap.size + 1, 1, none⟩ (.int .i64 0)).setCell ⟨w.heap.size + 1, 2, none⟩ (.slice none 0 0)) := fun w2 hb =>
    RetPuzzle.none_ (((hb.setCell (p := ⟨w.heap.size + 1, 0, none⟩) (by simp) _).setCell (p := ⟨w.heap.size + 1, 1, none⟩) (by simp) _).setCell (p := ⟨w.heap.size + 1, 2, none⟩) (by simp) _)
  cases hH : dc (Good W H L ∧ okP W H = true) with
  | true =>
    have hm : (decide (m < 0) || decide (6 < m) || decide (seed < 0) || decide (9999 < seed)) = true := by
      have h1 := dc_iff.1 hH
      simp only [Bool.or_eq_true, decide_eq_true_eq]
      have : ¬ ((0 ≤ m ∧ m ≤ 6) ∧ (0 ≤ seed ∧ seed ≤ 9999)) := fun h => hno ⟨h1, h.1, h.2⟩
      omega
    have C1 := Lib.hid (callB_yes C (dc_iff.1 hH))
    clear C hL hno hH
    by_cases t1 : m < 0
    · (go_enter Try.func29, Try.ntmps29; go_wp2_with fail; (with_reducible refine C1.out.mono ?_); rintro e w1 ⟨rfl, hb⟩; have f0 := (hb.frozen (p := ⟨w.heap.size + 1, 0, none⟩) R0.lt).trans (fz 0); have f1 := (hb.frozen (p := ⟨w.heap.size + 1, 1, none⟩) R0.lt).trans (fz 1); have f2 := (hb.frozen (p := ⟨w.heap.size + 1, 2, none⟩) R0.lt).trans (fz 2); obtain ⟨rl, r0, r1, r2⟩ := R0.next hb; have hB := B0.trans (hb.mono B0.size); clear hb fz R0 B0 C1; go_wp2_with fail; refine bodyPost_ret (v := .tuple #[.agg #[.int .i64 0, .int .i64 0, .slice none 0 0], .bool false]) (by simp [results, Try.results29, go_sem, r0, r1, r2]) rfl ?_; exact fin _ hB)
    · by_cases t2 : 6 < m
      · (go_enter Try.func29, Try.ntmps29; go_wp2_with fail; (with_reducible refine C1.out.mono ?_); rintro e w1 ⟨rfl, hb⟩; have f0 := (hb.frozen (p := ⟨w.heap.size + 1, 0, none⟩) R0.lt).trans (fz 0); have f1 := (hb.frozen (p := ⟨w.heap.size + 1, 1, none⟩) R0.lt).trans (fz 1); have f2 := (hb.frozen (p := ⟨w.heap.size + 1, 2, none⟩) R0.lt).trans (fz 2); obtain ⟨rl, r0, r1, r2⟩ := R0.next hb; have hB := B0.trans (hb.mono B0.size); clear hb fz R0 B0 C1; go_wp2_with fail; refine bodyPost_ret (v := .tuple #[.agg #[.int .i64 0, .int .i64 0, .slice none 0 0], .bool false]) (by simp [results, Try.results29, go_sem, r0, r1, r2]) rfl ?_; exact fin _ hB)
      · by_cases t3 : seed < 0
        · (go_enter Try.func29, Try.ntmps29; go_wp2_with fail; (with_reducible refine C1.out.mono ?_); rintro e w1 ⟨rfl, hb⟩; have f0 := (hb.frozen (p := ⟨w.heap.size + 1, 0, none⟩) R0.lt).trans (fz 0); have f1 := (hb.frozen (p := ⟨w.heap.size + 1, 1, none⟩) R0.lt).trans (fz 1); have f2 := (hb.frozen (p := ⟨w.heap.size + 1, 2, none⟩) R0.lt).trans (fz 2); obtain ⟨rl, r0, r1, r2⟩ := R0.next hb; have hB := B0.trans (hb.mono B0.size); clear hb fz R0 B0 C1; go_wp2_with fail; refine bodyPost_ret (v := .tuple #[.agg #[.int .i64 0, .int .i64 0, .slice none 0 0], .bool false]) (by simp [results, Try.results29, go_sem, r0, r1, r2]) rfl ?_; exact fin _ hB)
        · by_cases t4 : 9999 < seed
          · (go_enter Try.func29, Try.ntmps29; go_wp2_with fail; (with_reducible refine C1.out.mono ?_); rintro e w1 ⟨rfl, hb⟩; have f0 := (hb.frozen (p := ⟨w.heap.size + 1, 0, none⟩) R0.lt).trans (fz 0); have f1 := (hb.frozen (p := ⟨w.heap.size + 1, 1, none⟩) R0.lt).trans (fz 1); have f2 := (hb.frozen (p := ⟨w.heap.size + 1, 2, none⟩) R0.lt).trans (fz 2); obtain ⟨rl, r0, r1, r2⟩ := R0.next hb; have hB := B0.trans (hb.mono B0.size); clear hb fz R0 B0 C1; go_wp2_with fail; refine bodyPost_ret (v := .tuple #[.agg #[.int .i64 0, .int .i64 0, .slice none 0 0], .bool false]) (by simp [results, Try.results29, go_sem, r0, r1, r2]) rfl ?_; exact fin _ hB)
          · exact absurd hm (by simp [t1, t2, t3, t4])
  | false =>
    have C1 := Lib.hid (callB_no C (fun h => by rw [dc_true h] at hH; cases hH))
    clear C hL hno hH
    (go_enter Try.func29, Try.ntmps29; go_wp2_with fail; (with_reducible refine C1.out.mono ?_); rintro e w1 ⟨rfl, hb⟩; have f0 := (hb.frozen (p := ⟨w.heap.size + 1, 0, none⟩) R0.lt).trans (fz 0); have f1 := (hb.frozen (p := ⟨w.heap.size + 1, 1, none⟩) R0.lt).trans (fz 1); have f2 := (hb.frozen (p := ⟨w.heap.size + 1, 2, none⟩) R0.lt).trans (fz 2); obtain ⟨rl, r0, r1, r2⟩ := R0.next hb; have hB := B0.trans (hb.mono B0.size); clear hb fz R0 B0 C1; go_wp2_with fail; refine bodyPost_ret (v := .tuple #[.agg #[.int .i64 0, .int .i64 0, .slice none 0 0], .bool false]) (by simp [results, Try.results29, go_sem, r0, r1, r2]) rfl ?_; exact fin _ hB)
end Go.Proofs.Ytpbghalljfcaoaa
namespace Go.Proofs.Ytpbghalljfcaoaa
open Go.RowKit

set_option maxRecDepth 100000 in
set_option maxHeartbeats 16000000 in
theorem specMake_yes (W H : Int) (A : Option Addr) (n c : Nat) (L : List Sq) (M : Nat) (seed : Int) (w : World) (hl : L.length = n) (hc : n ≤ c) (hL : SqsAt w w.heap.size A L) (hok : MkOk W H L M seed) :
    Calls Try.prog 28 #[.agg #[.int .i64 W, .int .i64 H, .slice A n c], .int .i64 M, .int .i64 seed] w (RetPuzzle w W H (mkL W H L seed M) true) := by
  subst hl
  obtain ⟨hH, hm, hsd⟩ := hok
  obtain ⟨i0, hi, hz0, hz1, hz2⟩ := info_parts infoCl'
  have hcells := okP_size hH.2
  obtain ⟨C, hC⟩ : ∃ C, W * H = C := ⟨_, rfl⟩
  rw [hC] at hcells
  have hwC : IntKind.i64.wrap (W * H) = C := by rw [hC]; exact IntWalk.i64_in _ (by omega)
  have HH := Lib.hid hH
  have HCC := Lib.hid hC
  have HSD := Lib.hid hsd
  have HM6 := Lib.hid hm
  have B0 : Below w.heap.size w ((w.alloc (.cells #[.int .i64 W, .int .i64 H, .slice A L.length c] 47)).alloc (.cells #[.int .i64 0, .int .i64 0, .slice none 0 0] 35)) := ((Below.refl _ _).alloc (Nat.le_refl _) _).alloc (by simp) _
  have R0 := Cv3.start (w.alloc (.cells #[.int .i64 W, .int .i64 H, .slice A L.length c] 47)) (.int .i64 0) (.int .i64 0) (.slice none 0 0) 35
  have J0 := (Cv3.start w (.int .i64 W) (.int .i64 H) (.slice A L.length c) 47).next ((Below.refl _ _).alloc (Nat.le_refl _) (.cells #[.int .i64 0, .int .i64 0, .slice none 0 0] 35))
  rw [World.size_alloc] at R0
  have fz : ∀ o, ((w.alloc (.cells #[.int .i64 W, .int .i64 H, .slice A L.length c] 47)).alloc (.cells #[.int .i64 0, .int .i64 0, .slice none 0 0] 35)).frozen? ⟨w.heap.size + 1, o, none⟩ = false := by
    intro o; exact World.frozen?_alloc_at _ _ _ _ (by simp)
  have L1 := fun w' => l1In_any (M : Int) 0 6 w'
  have L2 := fun w' => l1In_any seed 0 9999 w'
  rw [inB_iff.2 hm] at L1
  rw [inB_iff.2 hsd] at L2
  clear hH hC
  go_enter Try.func28, Try.ntmps28
  go_wp2_with fail
  obtain ⟨W0, hW0⟩ : ∃ W0, W0 = (w.alloc (.cells #[.int .i64 W, .int .i64 H, .slice A L.length c] 47)).alloc (.cells #[.int .i64 0, .int .i64 0, .slice none 0 0] 35) := ⟨_, rfl⟩
  rw [← hW0] at B0 R0 J0 fz ⊢
  clear hW0
  refine (callB_yes (pzHidden_any W H A L.length c L W0 rfl hc ((hL.below B0).mono B0.size)) HH.out).mono ?_
  rintro e w1 ⟨rfl, hb⟩
  replace fz := fun o => (hb.frozen (p := ⟨w.heap.size + 1, o, none⟩) R0.lt).trans (fz o)
  replace R0 := R0.next hb
  replace J0 := J0.next hb
  replace B0 := B0.trans (hb.mono B0.size)
  clear hb
  obtain ⟨jl, j0, j1, j2⟩ := id J0
  go_wp2_with fail
  refine (L1 _).mono ?_
  rintro e w' ⟨rfl, rfl⟩
  go_wp2_with fail
  refine (L2 _).mono ?_
  rintro e w' ⟨rfl, rfl⟩
  go_wp2_with fail
  clear jl j0 j1 j2
  have hN2 : w.heap.size + 2 ≤ w1.heap.size := by have := R0.lt; omega
  obtain ⟨W2, hW2⟩ : ∃ W2, W2 = w1.alloc (.cells #[.int .i64 W, .int .i64 H, .slice none 0 0] 35) := ⟨_, rfl⟩
  have hb : Below w1.heap.size w1 W2 := by rw [hW2]; exact (Below.refl _ _).alloc (Nat.le_refl _) _
  have M0 : MP w.heap.size w1.heap.size w W2 W H A L.length c none 0 (mkL W H L seed 0) := by
    replace fz := fun o => (hb.frozen (p := ⟨w.heap.size + 1, o, none⟩) R0.lt).trans (fz o)
    replace R0 := R0.next hb
    replace J0 := J0.next hb
    have P0 := Cv3.start w1 (.int .i64 W) (.int .i64 H) (.slice none 0 0) 35
    rw [← hW2] at P0
    refine ⟨B0.trans (hb.mono B0.size), by omega, by rw [hW2]; simp, J0.c0, J0.c1, J0.c2, R0.c0, R0.c1, R0.c2, fz, P0.c0, P0.c1, P0.c2, fun o => ?_, World.ownsRow_nil _ _ _ _⟩
    rw [hW2]; exact World.frozen?_alloc_at _ _ _ _ rfl
  rw [← hW2]
  clear hW2 fz R0 J0 hb B0 L1 L2 hm hsd
  go_loopw [1, 9] (fun i z wr => ∃ (k : Nat) (Ap : Option Addr) (cp : Nat), k ≤ M ∧ i = .int .i64 ((M : Int) - k) ∧ z = .int .i64 (stZ seed k) ∧ MP w.heap.size w1.heap.size w wr W H A L.length c Ap cp (mkL W H L seed k)) (fun i _ _ => (intOf i).toNat)
  case atStart => exact ⟨0, none, 0, Nat.zero_le _, by simp, rfl, M0⟩
  case round =>
    clear M0
    obtain ⟨k, Ap, cp, hk, rfl, rfl, hM⟩ := hrel
    have hm6 : M ≤ 6 := by have := HM6.out; omega
    by_cases hlt : k < M
    · have hzb := stZ_bd HSD.out k
      obtain ⟨z, hzz⟩ : ∃ z, stZ seed k = z := ⟨_, rfl⟩
      have hst : stZ seed (k + 1) = nextZ z := by rw [← hzz]; rfl
      have hmk := mkL_succ W H L seed k
      rw [hzz] at hmk hzb ⊢
      rw [HCC.out] at hmk
      have hRl := mkL_len W H L seed k
      obtain ⟨R, hR⟩ : ∃ R, mkL W H L seed k = R := ⟨_, rfl⟩
      rw [hR] at hmk hRl hM
      have HST := Lib.hid hst
      have HMK := Lib.hid hmk
      have HRL := Lib.hid hRl
      clear hst hmk hzz hR hRl
      have hnb := nxZ_bd hzb.1
      have hnb2 := nxZ_bd hnb.1
      have hpos : (0 : Int) < (M : Int) - (k : Int) := by omega
      go_wp2_with fail
      refine (pzNext_any z hzb _).mono ?_
      rintro e w' ⟨rfl, rfl⟩
      obtain ⟨kk, hkk⟩ : ∃ kk, nxZ z % 6 = kk := ⟨_, rfl⟩
      have hk6 : 0 ≤ kk ∧ kk ≤ 5 := by omega
      have CA := fun w' => pzAlone_any kk w'
      go_wp2_with fail
      rw [hkk]
      refine (CA _).mono ?_
      rintro e w' ⟨rfl, rfl⟩
      obtain ⟨aa, haa⟩ : ∃ aa, ask C z = ⟨kk, aa, 0⟩ := by
        unfold ask; rw [hkk]; split
        · exact ⟨0, rfl⟩
        · exact ⟨_, rfl⟩
      have hq1 : (⟨kk, aa, 0⟩ : Sq) = (if aloneB kk then ⟨kk, 0, 0⟩ else ⟨kk, askA C kk (nxZ (nxZ z)), 0⟩) := by rw [← haa]; unfold ask; rw [hkk]
      have hq2 : nextZ z = if aloneB kk then nxZ z else nxZ (nxZ z) := by unfold nextZ; rw [hkk]
      have hok := ask_ok (C := C) (z := z)
      rw [haa] at hok
      have ha0 : aloneB kk = true → aa = 0 := fun h => by rw [h, if_pos rfl] at hq1; exact (Sq.mk.inj hq1).2.1
      obtain ⟨z', hz'⟩ : ∃ z', nextZ z = z' := ⟨_, rfl⟩
      rw [hz'] at hq2
      have HQ := Lib.hid haa
      have HZ' := Lib.hid hz'
      have HQ1 := Lib.hid hq1
      have HQ2 := Lib.hid hq2
      have HA0 := Lib.hid ha0
      have hon : ∀ k, (Value.slice Ap R.length cp).ownBlock = some k → w1.heap.size + 1 ≤ k := fun k hk => (hM.own.lt k hk).1
      clear haa hz' hq1 hq2 hkk ha0
      go_upto_if 42 with fail
      go_cut [9, 11] (fun s9 s11 wx => s9 = .int .i64 z' ∧ s11 = .int .i64 aa ∧ wx = wr)
      case first =>
        rcases (by omega : kk = 0 ∨ kk = 1 ∨ kk = 2 ∨ kk = 3 ∨ kk = 4 ∨ kk = 5) with rfl | rfl | rfl | rfl | rfl | rfl
        · have e1 : aa = 0 := (Sq.mk.inj HQ1.out).2.1
          have e2 : z' = nxZ z := HQ2.out
          go_wp2_with fail
          go_meet
          exact ⟨by rw [e2], by rw [e1], rfl⟩
        · have e1 : aa = nxZ (nxZ z) % 3 + 1 := (Sq.mk.inj HQ1.out).2.1
          have e2 : z' = nxZ (nxZ z) := HQ2.out
          obtain ⟨jl, j0, j1, j2⟩ := And.intro hM.sz (And.intro hM.c0 (And.intro hM.c1 hM.c2))
          go_wp2_with fail
          refine (pzNext_any (nxZ z) hnb _).mono ?_
          rintro e w' ⟨rfl, rfl⟩
          go_wp2_with fail
          go_meet
          exact ⟨by rw [e2], by rw [e1], rfl⟩
        · have e1 : aa = nxZ (nxZ z) % C := (Sq.mk.inj HQ1.out).2.1
          have e2 : z' = nxZ (nxZ z) := HQ2.out
          obtain ⟨jl, j0, j1, j2⟩ := And.intro hM.sz (And.intro hM.c0 (And.intro hM.c1 hM.c2))
          go_wp2_with fail
          refine (pzNext_any (nxZ z) hnb _).mono ?_
          rintro e w' ⟨rfl, rfl⟩
          go_wp2_with fail
          go_meet
          exact ⟨by rw [e2], by rw [e1], rfl⟩
        · have e1 : aa = nxZ (nxZ z) % 4 := (Sq.mk.inj HQ1.out).2.1
          have e2 : z' = nxZ (nxZ z) := HQ2.out
          obtain ⟨jl, j0, j1, j2⟩ := And.intro hM.sz (And.intro hM.c0 (And.intro hM.c1 hM.c2))
          go_wp2_with fail
          refine (pzNext_any (nxZ z) hnb _).mono ?_
          rintro e w' ⟨rfl, rfl⟩
          go_wp2_with fail
          go_meet
          exact ⟨by rw [e2], by rw [e1], rfl⟩
        · have e1 : aa = 0 := (Sq.mk.inj HQ1.out).2.1
          have e2 : z' = nxZ z := HQ2.out
          go_wp2_with fail
          go_meet
          exact ⟨by rw [e2], by rw [e1], rfl⟩
        · have e1 : aa = 0 := (Sq.mk.inj HQ1.out).2.1
          have e2 : z' = nxZ z := HQ2.out
          go_wp2_with fail
          go_meet
          exact ⟨by rw [e2], by rw [e1], rfl⟩
      case rest =>
        obtain ⟨rfl, rfl, hwc⟩ := hcut
        rw [hwc]
        clear hwc
        obtain ⟨r, hr⟩ : ∃ r, hasIt W H L ⟨kk, aa, 0⟩ = r := ⟨_, rfl⟩
        have HR := Lib.hid hr
        have C1 : ∀ w', Below wr.heap.size wr w' → Calls Try.prog 55 #[.int .i64 kk, .int .i64 aa, .agg #[.int .i64 W, .int .i64 H, .slice A L.length c]] w' fun e w2 => e = .returned (.agg #[.int .i64 r.x, .int .i64 r.y, .int .i64 r.d]) ∧ Below w'.heap.size w' w2 := fun w' hb => by
          rw [← hr]
          have hB := hM.bel.trans (hb.mono hM.bel.size)
          exact pzOf_any kk aa hok HA0.out W H A L.length c L w' rfl hc ((hL.below hB).mono hB.size) HH.out.1
        have HS : ∀ w', Below wr.heap.size wr w' → w'.cell? ⟨w1.heap.size, 2, none⟩ = some (.slice Ap R.length cp) ∧ w'.cell? ⟨w.heap.size, 0, none⟩ = some (.int .i64 W) ∧ w'.cell? ⟨w.heap.size, 1, none⟩ = some (.int .i64 H) ∧ w'.cell? ⟨w.heap.size, 2, none⟩ = some (.slice A L.length c) := fun w' hb => by
          have M := hM.keep hb
          exact ⟨M.p2, M.c0, M.c1, M.c2⟩
        have hk1 : R.length + 1 ≤ maxLen := by have := HRL.out; unfold maxLen; omega
        have hk2 : (R.length + 1) * 24 ≤ 140737488355328 := by have := HRL.out; omega
        have HMC := Lib.hid hM
        clear hr hM hL
        go_wp2_with fail
        refine wp_region_top 8 (fun w' => w'.cell? ⟨w1.heap.size, 2, none⟩ = some (.slice Ap R.length cp) ∧ w'.cell? ⟨w.heap.size, 0, none⟩ = some (.int .i64 W) ∧ w'.cell? ⟨w.heap.size, 1, none⟩ = some (.int .i64 H) ∧ w'.cell? ⟨w.heap.size, 2, none⟩ = some (.slice A L.length c)) (by kernel_rfl) (HS _ ((Below.refl _ _).drew)) (fun hHeld => ?_)
        refine wpTop.take 0 (v := ?_) rfl (by kernel_rfl) (by kernel_rfl) (by kernel_rfl) (by kernel_rfl) (fun _ _ _ h => h) (Or.inl ⟨by rfl, ?_⟩) (by assumption) ?_
        rotate_left
        · intro w hSw; (try dsimp only at hSw); go_simp; try (with_reducible rfl)
        try simp only [Act.put, List.getElem_toArray, List.getElem_cons_zero, List.getElem_cons_succ, List.setIfInBounds_toArray, List.set_cons_zero, List.set_cons_succ]
        refine wpTop.take 1 (v := ?_) rfl (by kernel_rfl) (by kernel_rfl) (by kernel_rfl) (by kernel_rfl) (fun _ _ _ h => h) (Or.inl ⟨by rfl, ?_⟩) (by assumption) ?_
        rotate_left
        · intro w hSw; (try dsimp only at hSw); go_simp; try (with_reducible rfl)
        try simp only [Act.put, List.getElem_toArray, List.getElem_cons_zero, List.getElem_cons_succ, List.setIfInBounds_toArray, List.set_cons_zero, List.set_cons_succ]
        refine wpTop.take 2 (v := ?_) rfl (by kernel_rfl) (by kernel_rfl) (by kernel_rfl) (by kernel_rfl) (fun _ _ _ h => h) (Or.inl ⟨by rfl, ?_⟩) (by assumption) ?_
        rotate_left
        · intro w hSw; (try dsimp only at hSw); go_simp; try (with_reducible rfl)
        try simp only [Act.put, List.getElem_toArray, List.getElem_cons_zero, List.getElem_cons_succ, List.setIfInBounds_toArray, List.set_cons_zero, List.set_cons_succ]
        refine wpTop.take 3 (v := ?_) rfl (by kernel_rfl) (by kernel_rfl) (by kernel_rfl) (by kernel_rfl) (fun _ _ _ h => h) (Or.inl ⟨by rfl, ?_⟩) (by assumption) ?_
        rotate_left
        · intro w hSw; (try dsimp only at hSw); go_simp; try (with_reducible rfl)
        try simp only [Act.put, List.getElem_toArray, List.getElem_cons_zero, List.getElem_cons_succ, List.setIfInBounds_toArray, List.set_cons_zero, List.set_cons_succ]
        refine wpTop.take 4 (v := ?_) rfl (by kernel_rfl) (by kernel_rfl) (by kernel_rfl) (by kernel_rfl) (fun _ _ _ h => h) (Or.inl ⟨by rfl, ?_⟩) (by assumption) ?_
        rotate_left
        · intro w hSw; (try dsimp only at hSw); go_simp; try (with_reducible rfl)
        try simp only [Act.put, List.getElem_toArray, List.getElem_cons_zero, List.getElem_cons_succ, List.setIfInBounds_toArray, List.set_cons_zero, List.set_cons_succ]
        refine wpTop.one 5 rfl (by kernel_rfl) (fun K hK => ?_)
        go_simp
        (with_reducible refine (C1 _ ((Below.refl _ _).drew)).mono ?_)
        rintro e w4 ⟨rfl, hb4'⟩
        have hb4 : Below wr.heap.size wr w4 := ((Below.refl wr.heap.size wr).drew).trans hb4'
        clear hb4'
        refine hK.out _ _ (fun _ => HS _ hb4) (fun hH => ?_)
        clear hK K
        have hHeld := hH (by decide)
        clear hH
        try simp only [Act.put, List.getElem_toArray, List.getElem_cons_zero, List.getElem_cons_succ, List.setIfInBounds_toArray, List.set_cons_zero, List.set_cons_succ]
        have M4 := HMC.out.keep hb4
        have ws4 := M4.own
        have hz4 := hb4.size
        refine wpTop.one 6 rfl (by kernel_rfl) (fun K hK => ?_)
        go_simp
        refine hK.out _ _ (fun _ => HS _ (hb4.alloc hz4 _)) (fun hH => ?_)
        clear hK K
        have hHeld := hH (by decide)
        clear hH
        try simp only [Act.put, List.getElem_toArray, List.getElem_cons_zero, List.getElem_cons_succ, List.setIfInBounds_toArray, List.set_cons_zero, List.set_cons_succ]
        refine wpTop.one 7 rfl (by kernel_rfl) (fun K hK => ?_)
        refine app_step rfl _ _ _ rfl (w1.heap.size + 1) 25 i0 (.agg #[.int .i64 0, .int .i64 0, .int .i64 0]) 3 24 Try.underlying33 hi hz0 hz1 hz2 rfl (by decide) (.slice Ap R.length cp) R.length _ rfl (ws4.alloc _) (some ⟨w4.heap.size, 0, none⟩) 1 1 [.int .i64 r.x, .int .i64 r.y, .int .i64 r.d] rfl rfl (.inr ⟨_, rfl, new3 _ _ _ _ _⟩) (one3 _ _ _) hk1 hk2 (by have := M4.sz; simp; omega) ?_
        intro v' w6 hown6 hgrow hv6
        obtain ⟨A6, c6, rfl⟩ := own_val hown6
        have M5 := M4.keep ((Below.refl w4.heap.size w4).alloc (Nat.le_refl _) (.cells #[.int .i64 r.x, .int .i64 r.y, .int .i64 r.d] 25))
        have hne : ∀ i, i < w1.heap.size + 1 → (Value.slice Ap R.length cp).ownBlock ≠ some i := fun i hi e => by have := hon i e; omega
        have HS5 := HS _ (hb4.alloc hz4 (.cells #[.int .i64 r.x, .int .i64 r.y, .int .i64 r.d] 25))
        have fz : ∀ i o u, (Value.slice Ap R.length cp).ownBlock ≠ some i → (w4.alloc (.cells #[.int .i64 r.x, .int .i64 r.y, .int .i64 r.d] 25)).cell? ⟨i, o, none⟩ = some u → w6.cell? ⟨i, o, none⟩ = some u := fun i o u hi h => hgrow.cell h (fun e => hi e.symm)
        have HS6 : w6.cell? ⟨w1.heap.size, 2, none⟩ = some (.slice Ap R.length cp) ∧ w6.cell? ⟨w.heap.size, 0, none⟩ = some (.int .i64 W) ∧ w6.cell? ⟨w.heap.size, 1, none⟩ = some (.int .i64 H) ∧ w6.cell? ⟨w.heap.size, 2, none⟩ = some (.slice A L.length c) := ⟨fz _ _ _ (hne _ (by omega)) HS5.1, fz _ _ _ (hne _ (by omega)) HS5.2.1, fz _ _ _ (hne _ (by omega)) HS5.2.2.1, fz _ _ _ (hne _ (by omega)) HS5.2.2.2⟩
        have M8 := M5.push (s := r) hown6 hgrow
        have f6 := M5.fp 2
        have g6 : w6.frozen? ⟨w1.heap.size, 2, none⟩ = false := (hgrow.frozen_far ⟨w1.heap.size, 2, none⟩ M5.sz (fun e => hne w1.heap.size (by omega) e.symm)).trans f6
        refine hK.out _ _ (fun _ => HS6) (fun hH => ?_)
        clear hK K
        have hHeld := hH (by decide)
        clear hH
        try simp only [Act.put, List.getElem_toArray, List.getElem_cons_zero, List.getElem_cons_succ, List.setIfInBounds_toArray, List.set_cons_zero, List.set_cons_succ]
        refine wpTop.one 8 rfl (by kernel_rfl) (fun K hK => ?_)
        go_simp
        refine hK.out _ _ (fun h => absurd h (by decide)) (fun hH => ?_)
        clear hK K
        clear hH
        try simp only [Act.put, List.getElem_toArray, List.getElem_cons_zero, List.getElem_cons_succ, List.setIfInBounds_toArray, List.set_cons_zero, List.set_cons_succ]
        refine wpTop.one 9 rfl (by kernel_rfl) (fun K hK => ?_)
        have e6 := HS6.1
        go_simp
        refine hK.out _ _ (fun h => absurd h (by decide)) (fun hH => ?_)
        clear hK K
        clear hH
        try simp only [Act.put, List.getElem_toArray, List.getElem_cons_zero, List.getElem_cons_succ, List.setIfInBounds_toArray, List.set_cons_zero, List.set_cons_succ]
        refine wpTop.all (by kernel_rfl) ?_ _
        have HM8 := Lib.hid M8
        clear M8 M5 M4 HS HS5 HS6 hown6 hgrow hv6 fz ws4 hb4
        go_wp2_with fail
        go_roundw
        case rel => exact ⟨k + 1, A6, c6, by omega, by rw [show (M : Int) - ((k + 1 : Nat) : Int) = (M : Int) - (k : Int) - 1 by omega], by rw [HST.out, HZ'.out], by rw [HMK.out, HQ.out, HR.out]; exact HM8.out⟩
        case measure => simp [intOf]; omega
    · obtain rfl : k = M := by omega
      obtain ⟨R, hR⟩ : ∃ R, mkL W H L seed k = R := ⟨_, rfl⟩
      rw [hR] at hM
      obtain ⟨p0, p1, p2⟩ := And.intro hM.p0 (And.intro hM.p1 hM.p2)
      obtain ⟨r0, r1, r2⟩ := And.intro hM.r0 (And.intro hM.r1 hM.r2)
      have t0 := hM.fr 0
      have t1 := hM.fr 1
      have t2 := hM.fr 2
      have hne : w.heap.size + 1 < w1.heap.size + 1 := by omega
      have HM := Lib.hid hM
      have HR0 := Lib.hid hR
      clear hM hR hL
      rw [show (k : Int) - (k : Int) = 0 by omega]
      go_wp2_with fail
      refine bodyPost_ret (v := .tuple #[.agg #[.int .i64 W, .int .i64 H, .slice Ap R.length cp], .bool true]) (by simp [results, Try.results28, go_sem, r0, r1, r2]) rfl ?_
      rw [HR0.out]
      have hM := HM.out
      have R1 := own_base (ownsRow_setCell_below (ownsRow_setCell_below (ownsRow_setCell_below hM.own (a := ⟨w.heap.size + 1, 0, none⟩) hne (.int .i64 W)) (a := ⟨w.heap.size + 1, 1, none⟩) hne (.int .i64 H)) (a := ⟨w.heap.size + 1, 2, none⟩) hne (.slice Ap R.length cp)) (show w.heap.size ≤ w1.heap.size + 1 by omega)
      exact RetPuzzle.mk rfl R1 (((hM.bel.setCell (p := ⟨w.heap.size + 1, 0, none⟩) (by simp) _).setCell (p := ⟨w.heap.size + 1, 1, none⟩) (by simp) _).setCell (p := ⟨w.heap.size + 1, 2, none⟩) (by simp) _)
end Go.Proofs.Ytpbghalljfcaoaa
namespace Go.Proofs.Ytpbghalljfcaoaa
open Go.RowKit

theorem specMake_no (W H : Int) (A : Option Addr) (n c : Nat) (L : List Sq) (m seed : Int) (w : World) (hl : L.length = n) (hc : n ≤ c) (hL : SqsAt w w.heap.size A L) (hno : ¬ MkOk W H L m seed) :
    Calls Try.prog 28 #[.agg #[.int .i64 W, .int .i64 H, .slice A n c], .int .i64 m, .int .i64 seed] w (RetPuzzle w 0 0 [] false) := by
  subst hl
  have B0 : Below w.heap.size w ((w.alloc (.cells #[.int .i64 W, .int .i64 H, .slice A L.length c] 47)).alloc (.cells #[.int .i64 0, .int .i64 0, .slice none 0 0] 35)) := ((Below.refl _ _).alloc (Nat.le_refl _) _).alloc (by simp) _
  have R0 := Cv3.start (w.alloc (.cells #[.int .i64 W, .int .i64 H, .slice A L.length c] 47)) (.int .i64 0) (.int .i64 0) (.slice none 0 0) 35
  rw [World.size_alloc] at R0
  have fz : ∀ o, ((w.alloc (.cells #[.int .i64 W, .int .i64 H, .slice A L.length c] 47)).alloc (.cells #[.int .i64 0, .int .i64 0, .slice none 0 0] 35)).frozen? ⟨w.heap.size + 1, o, none⟩ = false := by
    intro o; exact World.frozen?_alloc_at _ _ _ _ (by simp)
  have C := pzHidden_any W H A L.length c L _ rfl hc ((hL.below B0).mono B0.size)
  have L1 := fun w' => l1In_any m 0 6 w'
  have L2 := fun w' => l1In_any seed 0 9999 w'
  have fin : ∀ (w2 : World), Below w.heap.size w w2 → RetPuzzle w 0 0 [] false (.returned (.tuple #[.agg #[.int .i64 0, .int .i64 0, .slice none 0 0], .bool false])) (((w2.setCell ⟨w.heap.size + 1, 0, none⟩ (.int .i64 0)).setCell ⟨w.heap.size + 1, 1, none⟩ (.int .i64 0)).setCell ⟨w.heap.size + 1, 2, none⟩ (.slice none 0 0)) := fun w2 hb =>
    RetPuzzle.none_ (((hb.setCell (p := ⟨w.heap.size + 1, 0, none⟩) (by simp) _).setCell (p := ⟨w.heap.size + 1, 1, none⟩) (by simp) _).setCell (p := ⟨w.heap.size + 1, 2, none⟩) (by simp) _)
  by_cases hH : Good W H L ∧ okP W H = true
  · have C1 := Lib.hid (callB_yes C hH)
    cases e1 : inB m 0 6 with
    | false =>
      rw [e1] at L1
      clear C hL hno hH L2
      (go_enter Try.func28, Try.ntmps28; go_wp2_with fail; (with_reducible refine C1.out.mono ?_); rintro e w1 ⟨rfl, hb⟩; have f0 := (hb.frozen (p := ⟨w.heap.size + 1, 0, none⟩) R0.lt).trans (fz 0); have f1 := (hb.frozen (p := ⟨w.heap.size + 1, 1, none⟩) R0.lt).trans (fz 1); have f2 := (hb.frozen (p := ⟨w.heap.size + 1, 2, none⟩) R0.lt).trans (fz 2); obtain ⟨rl, r0, r1, r2⟩ := R0.next hb; have hB := B0.trans (hb.mono B0.size); clear hb fz R0 B0 C1; go_wp2_with fail; refine (L1 _).mono ?_; rintro e w' ⟨rfl, rfl⟩; go_wp2_with fail; refine bodyPost_ret (v := .tuple #[.agg #[.int .i64 0, .int .i64 0, .slice none 0 0], .bool false]) (by simp [results, Try.results28, go_sem, r0, r1, r2]) rfl ?_; exact fin _ hB)
    | true =>
      cases e2 : inB seed 0 9999 with
      | false =>
        rw [e1] at L1
        rw [e2] at L2
        clear C hL hno hH
        (go_enter Try.func28, Try.ntmps28; go_wp2_with fail; (with_reducible refine C1.out.mono ?_); rintro e w1 ⟨rfl, hb⟩; have f0 := (hb.frozen (p := ⟨w.heap.size + 1, 0, none⟩) R0.lt).trans (fz 0); have f1 := (hb.frozen (p := ⟨w.heap.size + 1, 1, none⟩) R0.lt).trans (fz 1); have f2 := (hb.frozen (p := ⟨w.heap.size + 1, 2, none⟩) R0.lt).trans (fz 2); obtain ⟨rl, r0, r1, r2⟩ := R0.next hb; have hB := B0.trans (hb.mono B0.size); clear hb fz R0 B0 C1; go_wp2_with fail; refine (L1 _).mono ?_; rintro e w' ⟨rfl, rfl⟩; go_wp2_with fail; refine (L2 _).mono ?_; rintro e w' ⟨rfl, rfl⟩; go_wp2_with fail; refine bodyPost_ret (v := .tuple #[.agg #[.int .i64 0, .int .i64 0, .slice none 0 0], .bool false]) (by simp [results, Try.results28, go_sem, r0, r1, r2]) rfl ?_; exact fin _ hB)
      | true => exact absurd ⟨hH, inB_iff.1 e1, inB_iff.1 e2⟩ hno
  · have C1 := Lib.hid (callB_no C hH)
    clear C hL hno hH L1 L2
    (go_enter Try.func28, Try.ntmps28; go_wp2_with fail; (with_reducible refine C1.out.mono ?_); rintro e w1 ⟨rfl, hb⟩; have f0 := (hb.frozen (p := ⟨w.heap.size + 1, 0, none⟩) R0.lt).trans (fz 0); have f1 := (hb.frozen (p := ⟨w.heap.size + 1, 1, none⟩) R0.lt).trans (fz 1); have f2 := (hb.frozen (p := ⟨w.heap.size + 1, 2, none⟩) R0.lt).trans (fz 2); obtain ⟨rl, r0, r1, r2⟩ := R0.next hb; have hB := B0.trans (hb.mono B0.size); clear hb fz R0 B0 C1; go_wp2_with fail; refine bodyPost_ret (v := .tuple #[.agg #[.int .i64 0, .int .i64 0, .slice none 0 0], .bool false]) (by simp [results, Try.results28, go_sem, r0, r1, r2]) rfl ?_; exact fin _ hB)
/-- What MakePuzzle answers. -/
noncomputable def mkV (W H : Int) (L : List Sq) (m seed : Int) : Int × Int × List Sq × Bool := if dc (MkOk W H L m seed) then (W, H, mkL W H L seed m.toNat, true) else (0, 0, [], false)
theorem mkV_len (W H : Int) (L : List Sq) (m seed : Int) : (mkV W H L m seed).2.2.1.length ≤ 30 := by
  unfold mkV
  cases h : dc (MkOk W H L m seed) with
  | true => have := (dc_iff.1 h).2.1; simp [mkL_len]; omega
  | false => simp
theorem specMake_any (W H : Int) (A : Option Addr) (n c : Nat) (L : List Sq) (m seed : Int) (w : World) (hl : L.length = n) (hc : n ≤ c) (hL : SqsAt w w.heap.size A L) :
    Calls Try.prog 28 #[.agg #[.int .i64 W, .int .i64 H, .slice A n c], .int .i64 m, .int .i64 seed] w (RetPuzzle w (mkV W H L m seed).1 (mkV W H L m seed).2.1 (mkV W H L m seed).2.2.1 (mkV W H L m seed).2.2.2) := by
  unfold mkV
  by_cases h : MkOk W H L m seed
  · rw [dc_true h]
    obtain ⟨M, rfl⟩ := Int.eq_ofNat_of_zero_le h.2.1.1
    exact specMake_yes W H A n c L M seed w hl hc hL h
  · rw [dc_false h]
    exact specMake_no W H A n c L m seed w hl hc hL h
theorem implMake_any (W H : Int) (A : Option Addr) (n c : Nat) (L : List Sq) (m seed : Int) (w : World) (hl : L.length = n) (hc : n ≤ c) (hL : SqsAt w w.heap.size A L) (hwf : ∀ s ∈ L, wfS s) :
    Calls Try.prog 29 #[.agg #[.int .i64 W, .int .i64 H, .slice A n c], .int .i64 m, .int .i64 seed] w (RetPuzzle w (mkV W H L m seed).1 (mkV W H L m seed).2.1 (mkV W H L m seed).2.2.1 (mkV W H L m seed).2.2.2) := by
  unfold mkV
  by_cases h : MkOk W H L m seed
  · rw [dc_true h]
    obtain ⟨M, rfl⟩ := Int.eq_ofNat_of_zero_le h.2.1.1
    exact implMake_yes W H A n c L M seed w hl hc hL hwf h
  · rw [dc_false h]
    exact implMake_no W H A n c L m seed w hl hc hL hwf h
theorem szCutL_ok (W H : Int) (A : Option Addr) (n c : Nat) (left : Int) (w : World) (h1 : left ≤ 1048576) (h : (n : Int) ≤ left) :
    Calls Try.prog 17 #[.agg #[.int .i64 W, .int .i64 H, .slice A n c], .int .i64 left] w fun e w' => e = .returned (.int .i64 (left - n)) ∧ Below w.heap.size w w' := by
  have h' : ¬ left - n < 0 := by omega
  go_enter Try.func17, Try.ntmps17
  go_wp2_with fail
  refine (szSquareS_ok A n c _ _ h1 h).mono ?_
  rintro e w' ⟨rfl, rfl⟩
  go_wp2
  go_ret
  exact ⟨rfl, (Below.refl _ _).alloc (Nat.le_refl _) _⟩
theorem szCutL_over (W H : Int) (A : Option Addr) (n c : Nat) (left : Int) (w : World) (h0 : 0 ≤ left) (h1 : left ≤ 1048576) (h : left < n) (hn : n ≤ 9223372036854775807) :
    Calls Try.prog 17 #[.agg #[.int .i64 W, .int .i64 H, .slice A n c], .int .i64 left] w fun e w' => e = .returned (.int .i64 (-1)) ∧ Below w.heap.size w w' := by
  go_enter Try.func17, Try.ntmps17
  go_wp2_with fail
  refine (szSquareS_over A n c _ _ h0 h hn).mono ?_
  rintro e w' ⟨rfl, rfl⟩
  go_wp2
  go_ret
  exact ⟨rfl, (Below.refl _ _).alloc (Nat.le_refl _) _⟩
end Go.Proofs.Ytpbghalljfcaoaa
