/- slices.Values over a list of numbers, and the program's sum of them. -/
import Derived.Test.YtebnekicbcdnaaaCs
import Derived.Shelf.RegionOpen
set_option linter.all false
namespace Go.Proofs.Ytebnekicbcdnaaa
open Go.RowKit Go.Shelf
attribute [local go_sem] Oper.semAt_some

def upL (f : Nat → Int) (k : Nat) : List Int := (List.range k).map f
theorem upL_succ (f : Nat → Int) (k : Nat) : upL f (k + 1) = upL f k ++ [f k] := by simp [upL, List.range_succ]
theorem upL_length (f : Nat → Int) (k : Nat) : (upL f k).length = k := by simp [upL]
theorem upL_all (L : List Int) : upL (fun j => L[j]?.getD 0) L.length = L := by
  apply List.ext_getElem?
  intro i
  unfold upL
  by_cases h : i < L.length
  · simp [h]
  · simp [h]

set_option maxRecDepth 100000 in
set_option maxHeartbeats 2000000 in
theorem valuesI1 (F : Fence) (n : Nat) (h7 : F.fn 107) (hro : F.round = none) (hn : 1 ≤ n) (l Bs n₀ len cap : Nat) (A : Option Addr) (L : List Int) (hlen : L.length = len) (hreach : len ≤ 1000) (J Jx : List Int → World → Prop)
    (hY : ∀ pre x W, J pre W → pre.length < len → YieldAt F (n - 1) Try.prog l #[.int .i64 x] W fun e W' =>
      (e = .returned (.bool true) ∧ J (pre ++ [x]) W' ∧ Below n₀ W W') ∨ (e = .returned (.bool false) ∧ Jx (pre ++ [x]) W'))
    (W : World) (hBs : W.cell? ⟨Bs, 0, none⟩ = some (.slice A len cap)) (hc : IntsAt W n₀ A L) (h0 : J [] W) :
    CallsIn F n Try.prog 107 #[.func (.yield l) #[] #[], .pointer (some ⟨Bs, 0, none⟩)] W fun e W' => (∃ v, e = .returned v) ∧
      ((∃ ys, ys = upL (fun j => L[j]?.getD 0) len ∧ J ys W') ∨ (∃ pre, (∃ k, k ≤ len ∧ pre = upL (fun j => L[j]?.getD 0) k) ∧ Jx pre W')) := by
  refine callsIn_of_wp Try.func107 rfl h7 ?_ hro
  simp only [Try.ntmps107, List.size_toArray, List.length_cons, List.length_nil, Nat.reduceAdd, Nat.reduceSub, Array.replicate_succ, Array.replicate_zero, List.push_toArray, List.append_toArray, List.nil_append, List.cons_append]
  gi_wp2
  gi_loopw [7] (fun i wr => ∃ k : Nat, k ≤ len ∧ i = .int .i64 k ∧ J (upL (fun j => L[j]?.getD 0) k) wr ∧ Below n₀ W wr)
    (fun i _ => len - (intOf i).toNat)
  case atStart => exact ⟨0, Nat.zero_le _, rfl, h0, Below.refl _ _⟩
  case round =>
    obtain ⟨k, hk, rfl, hJs, hnx⟩ := hrel
    by_cases hlt : k < len
    · obtain ⟨u, hu⟩ : ∃ u, L[k]? = some u := ⟨_, List.getElem?_eq_getElem (by omega)⟩
      obtain ⟨b, off, rfl, hb, hcu⟩ := hc k u hu
      have hcx : wr.cell? ⟨b, off + k, none⟩ = some (.int .i64 u) := (hnx.cell (p := ⟨b, off + k, none⟩) hb).trans hcu
      have hup : upL (fun j => L[j]?.getD 0) (k + 1) = upL (fun j => L[j]?.getD 0) k ++ [u] := by rw [upL_succ]; simp [hu]
      obtain ⟨fn, tmps, assign, body, hy, hR⟩ := hY _ u wr hJs (by rw [upL_length]; exact hlt)
      have HUP := Lib.hid hup
      clear hup hu hlen hc hcu
      gi_wp2
      refine hR.mono ?_
      rintro e W3 (⟨rfl, hJ3, hk3⟩ | ⟨rfl, hJx3⟩)
      · gi_wp2
        go_roundw
        case rel => exact ⟨k + 1, by omega, by simp, by rw [HUP.out]; exact hJ3, hnx.trans hk3⟩
        case measure => simp [intOf]; omega
      · gi_wp2
        refine bodyPost_ret (results_none rfl _ _ _) rfl ?_
        exact ⟨⟨_, rfl⟩, .inr ⟨_, ⟨k + 1, by omega, HUP.out.symm⟩, hJx3⟩⟩
    · obtain rfl : k = len := by omega
      clear hlen
      gi_wp2
      go_end0
      exact ⟨⟨_, rfl⟩, .inl ⟨_, rfl, hJs⟩⟩
theorem valuesI_stops (n : Nat) (hn : 1 ≤ n) (Bs len cap : Nat) (A : Option Addr) (L : List Int) (hlen : L.length = len) (hreach : len ≤ 1000) (w w0 : World) (hB : Below w0.heap.size w0 w) (hBs : w.cell? ⟨Bs, 0, none⟩ = some (.slice A len cap)) (hL : IntsAt w0 w0.heap.size A L) :
    SeqStopsK Fence.wide n Try.prog 107 #[.pointer (some ⟨Bs, 0, none⟩)] (fun x : Int => #[Value.int .i64 x]) (Below w0.heap.size) (fun ys => ys = L) (fun _ => True) len w := fun l J Jx W hW _ _ hY h0 => by
  have hc' := (hW.cell (p := ⟨Bs, 0, none⟩) (World.block_lt_of_cell? _ _ hBs)).trans hBs
  have hL' : IntsAt W w0.heap.size A L := hL.below (hB.trans (hW.mono hB.size))
  refine (valuesI1 Fence.wide n trivial rfl hn l Bs w0.heap.size len cap A L hlen hreach J Jx hY W hc' hL' h0).mono ?_
  rintro e W' ⟨he, ⟨ys, rfl, hj⟩ | ⟨pre, _, hj⟩⟩
  · exact ⟨he, .inl ⟨_, by rw [← hlen]; exact upL_all L, hj⟩⟩
  · exact ⟨he, .inr ⟨_, trivial, hj⟩⟩
theorem valuesI_any (A : Option Addr) (n c : Nat) (w : World) :
    Calls Try.prog 89 #[.slice A n c] w fun e w' => e = .returned (.func (.func 107) #[] #[.pointer (some ⟨w.heap.size, 0, none⟩)]) ∧ w' = w.alloc (.cells #[.slice A n c] 25) := by
  go_enter Try.func89, Try.ntmps89
  go_wp2
  go_ret
  exact ⟨rfl, rfl⟩
theorem tellI_any (v : Int) (w : World) : Calls Try.prog 90 #[.int .i64 v] w fun e w' => e = .returned (.int .i64 v) ∧ w' = w := by
  go_enter Try.func90, Try.ntmps90
  go_wp2
  go_ret
  exact ⟨rfl, rfl⟩
theorem wsumF_snoc (pre : List Int) (v : Int) : wsumF (pre ++ [v]) = wrap64 (wsumF pre + v) := by simp [wsumF]
/-- The boxes of a sum. -/
structure SM (N : Nat) (t : Value) (s : Int) (w W : World) : Prop where
  c0 : W.cell? ⟨N, 0, none⟩ = some t
  c1 : W.cell? ⟨N + 1, 0, none⟩ = some (.int .i64 s)
  f1 : W.frozen? ⟨N + 1, 0, none⟩ = false
  b : Below N w W
theorem SM.keep {N : Nat} {t : Value} {s : Int} {w A C : World} {L : Nat} (h : SM N t s w A) (hb : Below L A C) (h2 : N + 2 ≤ L) : SM N t s w C :=
  ⟨(hb.cell (p := ⟨N, 0, none⟩) (by show N < L; omega)).trans h.c0, (hb.cell (p := ⟨N + 1, 0, none⟩) (by show N + 1 < L; omega)).trans h.c1, (hb.frozen (p := ⟨N + 1, 0, none⟩) (by show N + 1 < L; omega)).trans h.f1, h.b.trans (hb.mono (by omega))⟩
theorem SM.put {N : Nat} {t : Value} {s : Int} {w A : World} (h : SM N t s w A) (v : Int) : SM N t v w (A.setCell ⟨N + 1, 0, none⟩ (.int .i64 v)) :=
  ⟨(World.cell?_setCell_other _ _ _ _ (fun e => by have := (Addr.mk.inj e).1; omega)).trans h.c0, World.cell?_setCell_same _ _ _ h.c1, by rw [World.frozen?_setCell]; exact h.f1, h.b.setCell (p := ⟨N + 1, 0, none⟩) (by simp) _⟩
theorem SM.lt {N : Nat} {t : Value} {s : Int} {w A : World} (h : SM N t s w A) : N + 2 ≤ A.heap.size := by
  have := World.block_lt_of_cell? _ _ h.c1
  dsimp only at this
  omega

theorem SM.drewS {N : Nat} {t : Value} {s : Int} {w A : World} (h : SM N t s w A) : SM N t s w A.drew := h.keep (L := A.heap.size) (Below.refl _ _).drew h.lt
set_option maxRecDepth 100000 in
set_option maxHeartbeats 8000000 in
theorem sumI_any (Bs len cap : Nat) (A : Option Addr) (L : List Int) (w : World) (hlen : L.length = len) (hreach : len ≤ 1000) (hBs : w.cell? ⟨Bs, 0, none⟩ = some (.slice A len cap)) (hL : IntsAt w w.heap.size A L) :
    Calls Try.prog 88 #[.func (.func 107) #[] #[.pointer (some ⟨Bs, 0, none⟩)], .func (.func 90) #[] #[]] w fun e w' => e = .returned (.int .i64 (wsumF L)) ∧ Below w.heap.size w w' := by
  obtain ⟨W2, hW2⟩ : ∃ W2, W2 = (w.alloc (.cells #[.func (.func 90) #[] #[]] 92)).alloc (.cells #[.int .i64 0] 3) := ⟨_, rfl⟩
  have hz2 : W2.heap.size = w.heap.size + 2 := by rw [hW2]; simp
  have hB2 : Below w.heap.size w W2 := by rw [hW2]; exact ((Below.refl _ _).alloc (Nat.le_refl _) _).alloc (by simp) _
  have hS2 : SM w.heap.size (.func (.func 90) #[] #[]) 0 w W2 := by
    refine ⟨?_, ?_, ?_, hB2⟩
    · rw [hW2, World.cell?_alloc_lt _ _ _ (by simp)]; simp [go_sem]
    · rw [hW2]; simp [go_sem]
    · rw [hW2]; exact World.frozen?_alloc_at _ _ _ _ (by simp)
  have hc2 := (hB2.cell (p := ⟨Bs, 0, none⟩) (World.block_lt_of_cell? _ _ hBs)).trans hBs
  refine (callsIn_wide (n := 5)).1 ?_
  refine callsIn_of_wp_marks Try.func88 rfl trivial ?_ rfl
  simp only [Try.ntmps88, List.size_toArray, List.length_cons, List.length_nil, Nat.reduceAdd, Nat.reduceSub, Array.replicate_succ, Array.replicate_zero, List.push_toArray, List.append_toArray, List.nil_append, List.cons_append]
  gi_wp2
  rw [← hW2]
  clear hW2
  refine wpIn_rangeFunc_ownG rfl (by decide) (gf := 107) (lb := #[.pointer (some ⟨Bs, 0, none⟩)]) rfl trivial (enters_of Try.func107 (by kernel_rfl) rfl)
    (valuesI_stops _ (by decide) Bs len cap A L hlen hreach W2 w hB2 hc2 hL) Below.trans (belowK_b hB2.size) (Below.refl _ _) (fun _ => rfl)
    (fun pre W => SM w.heap.size (.func (.func 90) #[] #[]) (wsumF pre) w W) (fun _ _ _ => False)
    (fun s W W' row hs hg hr => by
      have hlt := hs.lt
      refine hs.keep (L := w.heap.size + 2) ⟨hg.os, hg.tape, hg.output, hg.size, fun k hk => hg.block k (by omega) (fun e => by have := (hr k e.symm).1; omega)⟩ (Nat.le_refl _))
    (fun _ _ _ _ _ hs _ _ => hs) hS2
    (fun x => { tmps := #[.func (.func 107) #[] #[.pointer (some ⟨Bs, 0, none⟩)], .func (.func 90) #[] #[], undef, .pointer (some ⟨w.heap.size, 0, none⟩), .int .i64 0, .pointer (some ⟨w.heap.size + 1, 0, none⟩), .int .i64 x, .func (.func 107) #[] #[.pointer (some ⟨Bs, 0, none⟩)], .int .i64 x, undef, undef, undef, undef, undef, undef], defers := [] }) ?assign ?body ?done ?stop
  case assign =>
    intro l x W K hK
    gi_wp2
    exact hK
  case body =>
    rintro l pre v W hS _
    obtain ⟨c0, c1, f1, hb⟩ := id hS
    have HS := Lib.hid hS
    clear hS hlen hL hBs hc2 hS2
    have hmx : Try.prog.follows .mixedOrders = true := by kernel_rfl
    gi_wp2
    gi_region_with_o ((try refine ⟨trivial, ?_⟩); gi_at_call 90; refine (CallsIn.inRound l (callsIn_wide.2 (tellI_any v _))).mono ?_; rintro e V2 ⟨rfl, rfl⟩)
    all_goals gi_wp2
    all_goals (try go_bits)
    all_goals exact ⟨((KeepsOthers.setCell _ _ _).trans (KeepsOthers.drew _)).from _, ((Below.refl _ W).setCell (p := ⟨w.heap.size + 1, 0, none⟩) (by simp) _).drew, by dsimp only; rw [wsumF_snoc]; exact (HS.out.put _).drewS⟩
  case done =>
    rintro D ys W hD rfl hS hK
    obtain ⟨c0, c1, f1, hb⟩ := id hS
    have HS := Lib.hid hS
    clear hS hlen hL hBs hc2 hS2
    gi_wp2
    refine ⟨by simp, .inl ⟨_, _, rfl, run_takeDeferred hK, ?_⟩⟩
    exact ⟨_, results_tmp rfl _ _ _, rfl, HS.out.b.trans (belowK_b (w := w) (Nat.le_refl _) W D _ _ (by omega) hK rfl rfl)⟩
  case stop =>
    intro D c pre W _ _ h
    exact h.elim

set_option maxRecDepth 100000 in
theorem totalOf_any (len cap : Nat) (A : Option Addr) (L : List Int) (w : World) (hlen : L.length = len) (hreach : len ≤ 1000) (hL : IntsAt w w.heap.size A L) :
    Calls Try.prog 55 #[.slice A len cap] w fun e w' => e = .returned (.int .i64 (wsumF L)) ∧ Below w.heap.size w w' := by
  go_enter Try.func55, Try.ntmps55
  go_wp2_with fail
  refine (valuesI_any _ _ _ _).mono ?_
  rintro e w3 ⟨rfl, hw3⟩
  have hb3 : Below w.heap.size w w3 := by rw [hw3]; exact (Below.refl _ _).alloc (Nat.le_refl _) _
  have c3 : w3.cell? ⟨w.heap.size, 0, none⟩ = some (.slice A len cap) := by rw [hw3]; simp [go_sem]
  have hL3 := (hL.below hb3).mono hb3.size
  clear hw3 hL
  go_wp2_with fail
  refine (sumI_any w.heap.size len cap A L w3 hlen hreach c3 hL3).mono ?_
  rintro e w4 ⟨rfl, hb4⟩
  go_wp2_with fail
  go_ret
  exact ⟨rfl, hb3.trans (hb4.mono hb3.size)⟩
theorem byF_len (W H : Int) : (byF W H).length ≤ 36 := by
  cases hok : okF W H with
  | false => unfold byF; rw [if_neg (by rw [hok]; decide)]; decide
  | true =>
    unfold byF
    rw [if_pos hok, tally_len, List.length_replicate]
    have h := okF_iff.1 hok
    exact Nat.le_trans (Nat.mul_le_mul (show W.toNat ≤ 6 by omega) (show H.toNat ≤ 6 by omega)) (by decide)
end Go.Proofs.Ytebnekicbcdnaaa
