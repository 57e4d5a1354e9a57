/- Coc, Coe: texts in one. -/
import Derived.Test.YtdpbjmdgjhleeaaLsM
import Derived.Maps.AppendAt
import Derived.Shelf.RegionOpen
set_option linter.all false
namespace Go.Proofs.Ytdpbjmdgjhleeaa
open Go.RowKit Go.Shelf
attribute [local go_sem] Oper.semAt_some

theorem wpListIn_app2 {F : Fence} {nn : Nat} {P : Program} (w : World) {ops : Array Oper} {rest : List Oper} {o : Oper} {a : Act} {Q : Exit → Act → World → Prop} (hgd : o.guard = none) (s x : Operand) (t : TypeId)
    (ho : o.op = .call { callee := .builtin .append, args := #[s, x], argTypes := #[t, t] })
    (base : Nat) (e : TypeId) (i : TypeInfo) (z : Value) (size bytes : Nat) (ht : P.underlying t = some (.slice e)) (hi : P.info? e = some i) (hz : i.zero = some z)
    (hsize : i.size = size) (hby : i.bytes = bytes) (hzs : z.cells.size = size) (hsz : 0 < size) (A : Option Addr) (n k : Nat) (xs : List Value) (hs : a.eval s = .slice A n k) (hown : w.ownsRow base e size (.slice A n k) n xs)
    (ad : Addr) (m c : Nat) (news : List Value) (hm : 0 < m) (hx : a.eval x = .slice (some ad) m c) (hl : news.length = m * size) (hc : ∀ j u, news[j]? = some u → w.cell? (ad.add j) = some u) (h1 : ∀ u ∈ news, u.oneCell' = true) (h63 : n + m ≤ maxLen) (hbytes : (n + m) * bytes ≤ 140737488355328) (hbase : base ≤ w.heap.size)
    (h : ∀ A' k' w', w'.ownsRow base e size (.slice A' (n + m) k') (n + m) (xs ++ news) → ((A' = A ∧ k' = k ∧ w.grownBy w' (Value.slice A n k).ownBlock) ∨ ((Value.slice A' (n + m) k').ownBlock = some w.heap.size ∧ w.grownBy w' none)) → wpListIn F nn P ops Q rest (a.put o.dst (.slice A' (n + m) k')) w') : wpListIn F nn P ops Q (o :: rest) a w := by
  refine wpListIn_plain hgd fun K hK => ?_
  obtain ⟨A', k', w', hrun, h2, h3⟩ := app_run2 (P := P) (w := w) (c := c) base t o.type e i z size bytes ht hi hz hsize hby hzs hsz hown hm hl hc h1 h63 hbytes hbase
  unfold Oper.wpIn
  refine ⟨?_, ?_⟩
  · simp [Oper.about, ho, resolve, Target.leads, Sem.run_pure]
  · rw [Oper.semAt_plain F _ _ (by rw [ho]; intro c hc'; cases hc')]
    simp [execOp, ho, resolve, invoke, builtin, hs, hx, Result.andThen]
    simp only [show (Builtin.append_ #[t, t] o.type #[.slice A n k, .slice (some ad) m c]).run P w = .ok (.slice A' (n + m) k') w' from hrun]
    exact hK _ _ (h A' k' w' h2 h3)

/-- The block of a cut's squares. -/
def blk (x : CV) : Option Nat := (Value.slice x.2.1 x.1.length x.2.2).ownBlock
/-- Rows of different types lie in different blocks. -/
theorem rows_ne {w : World} {base base' size size' n n' : Nat} {e e' : TypeId} {v v' : Value} {xs xs' : List Value} (h : w.ownsRow base e size v n xs) (h' : w.ownsRow base' e' size' v' n' xs') (hne : e ≠ e') : ∀ b, v.ownBlock = some b → v'.ownBlock ≠ some b := by
  intro b hb hb'
  rcases h.2 with ⟨rfl, _⟩ | ⟨g, cap, cur, rfl, _, hg, _⟩
  · cases hb
  · rcases h'.2 with ⟨rfl, _⟩ | ⟨g', cap', cur', rfl, _, hg', _⟩
    · cases hb'
    · simp only [Value.ownBlock, Option.some.injEq] at hb hb'
      subst hb; subst hb'
      rw [hg] at hg'
      cases hg'
      exact hne rfl
/-- The list under way: its box at N, its row, each cut's squares; none of it is the iterator's. -/
structure AL (N : Nat) (W H : Int) (w : World) (X : Nat → Prop) (pre : List CV) (V : World) : Prop where
  box : ∃ A c, Boxed V N 38 (.slice A pre.length c) ∧ V.ownsRow N 28 3 (.slice A pre.length c) pre.length (cutsV W H pre) ∧ ∀ b, (Value.slice A pre.length c).ownBlock = some b → ¬ X b
  sq : ∀ x ∈ pre, V.ownsRow N 85 3 (.slice x.2.1 x.1.length x.2.2) x.1.length (flat x.1)
  sx : ∀ x ∈ pre, ∀ b, blk x = some b → ¬ X b
  apart : pre.Pairwise fun x y => ∀ b, blk x = some b → blk y ≠ some b
  xlo : ∀ k, X k → N < k
  below : Below N w V
theorem AL.turnB {N : Nat} {W H : Int} {w A C : World} {X X' : Nat → Prop} {pre : List CV} (h : AL N W H w X pre A) (hb : ∀ k, k < A.heap.size → ¬ X k → (∃ cur e, A.heap[k]? = some (.cells cur e (0, 0))) → C.heap[k]? = A.heap[k]?) (hbl : Below N w C) (hx : ∀ k, X' k → X k ∨ A.heap.size ≤ k) (hN : N < A.heap.size) : AL N W H w X' pre C := by
  obtain ⟨L, c, hv, hr, hn⟩ := h.box
  have key : ∀ {e : TypeId} {s n : Nat} {v : Value} {xs : List Value}, A.ownsRow N e s v n xs → (∀ b, v.ownBlock = some b → ¬ X b) → C.ownsRow N e s v n xs := fun ho hno => own_of_block ho fun k hk => hb k (ho.lt k hk).2 (hno k hk) (by
    rcases ho.2 with ⟨rfl, _⟩ | ⟨g, cap, cur, rfl, _, hg, _⟩
    · cases hk
    · simp only [Value.ownBlock, Option.some.injEq] at hk; subst hk; exact ⟨_, _, hg⟩)
  refine ⟨⟨L, c, (hb N hN (fun hX => by have := h.xlo N hX; omega) ⟨_, _, hv⟩).trans hv, key hr hn, fun b hb' hX => ?_⟩, fun x hx' => key (h.sq x hx') (h.sx x hx'), fun x hx' b hb' hX => ?_, h.apart, fun k hk => ?_, hbl⟩
  · rcases hx b hX with h1 | h1
    · exact hn b hb' h1
    · have := (hr.lt b hb').2; omega
  · rcases hx b hX with h1 | h1
    · exact h.sx x hx' b hb' h1
    · have := ((h.sq x hx').lt b hb').2; omega
  · rcases hx k hk with h1 | h1
    · exact h.xlo k h1
    · omega
theorem AL.own {N : Nat} {W H : Int} {w : World} : OwnX (N + 1) (AL N W H w) := by
  refine ⟨fun X s A C row h hg hB hr => ?_, fun X s A k o o' h hB hk ho => ?_, fun X X' s A h hx => ?_⟩
  · refine h.turnB (fun k hk hX _ => hg.block k hk (fun e => hX (hr k e.symm))) (h.below.grown hg (by omega) (fun j ej => Nat.le_of_lt (h.xlo j (hr j ej)))) (fun k hk => ?_) (by omega)
    rcases hk with hk | hk
    · exact .inl hk
    · exact .inr hk.1
  · have hlt := (Array.getElem?_eq_some_iff.1 hk).1
    refine h.turnB (fun j hj hX hc => World.putObj_heap_other (fun e => ?_)) (h.below.grown (grownBy_putObj' A k o') (by omega) (fun j e => by cases e; omega)) (fun j hj => .inl hj) (by omega)
    subst e
    obtain ⟨cur, e2, hc⟩ := hc
    rw [hk] at hc; cases hc; cases ho
  · obtain ⟨L, c, hv, hr, hn⟩ := h.box
    exact ⟨⟨L, c, hv, hr, fun b hb hX => hn b hb (hx b hX)⟩, h.sq, fun x hx' b hb hX => h.sx x hx' b hb (hx b hX), h.apart, fun k hk => h.xlo k (hx k hk), h.below⟩
/-- A cut that comes: it lies by itself. -/
def IM (N : Nat) (W H : Nat) (w : World) (X : Nat → Prop) (pre : List CV) (x : CV) (V : World) : Prop := AL N W H w X pre V ∧ (x.1 ∈ allF W H ∧ OkC N X x V) ∧ (∀ y ∈ pre, ∀ b, blk x = some b → blk y ≠ some b) ∧ pre.length < (allF W H).length
theorem AL.push {N W H : Nat} {w V w6 : World} {X : Nat → Prop} {pre : List CV} {x : CV} {A1 A6 : Option Addr} {c1 c6 : Nat} {tmp : Obj} (hm : IM N W H w X pre x V) (hX : ∀ k, X k → k < V.heap.size) (hv : Boxed V N 38 (.slice A1 pre.length c1))
    (hrow : V.ownsRow N 28 3 (.slice A1 pre.length c1) pre.length (cutsV W H pre)) (hn : ∀ b, (Value.slice A1 pre.length c1).ownBlock = some b → ¬ X b) (hg : (V.alloc tmp).grownBy w6 (Value.slice A1 pre.length c1).ownBlock)
    (hc : ∀ b, (Value.slice A6 (pre.length + 1) c6).ownBlock = some b → (Value.slice A1 pre.length c1).ownBlock = some b ∨ V.heap.size < b) (hv2 : Boxed (w6.setCell ⟨N, 0, none⟩ (.slice A6 (pre.length + 1) c6)) N 38 (.slice A6 (pre.length + 1) c6))
    (hr2 : (w6.setCell ⟨N, 0, none⟩ (.slice A6 (pre.length + 1) c6)).ownsRow N 28 3 (.slice A6 (pre.length + 1) c6) (pre.length + 1) (cutsV W H pre ++ cutV W H x)) (hbl : Below N V (w6.setCell ⟨N, 0, none⟩ (.slice A6 (pre.length + 1) c6))) :
    KeepX X V (w6.setCell ⟨N, 0, none⟩ (.slice A6 (pre.length + 1) c6)) ∧ AL N W H w X (pre ++ [x]) (w6.setCell ⟨N, 0, none⟩ (.slice A6 (pre.length + 1) c6)) := by
  obtain ⟨hA, ⟨_, hok⟩, hfr, _⟩ := hm
  have kp : ∀ k, k < V.heap.size → k ≠ N → some k ≠ (Value.slice A1 pre.length c1).ownBlock → (w6.setCell ⟨N, 0, none⟩ (.slice A6 (pre.length + 1) c6)).heap[k]? = V.heap[k]? := fun k hk hN hne => (Below.heap_setCell _ _ _ k hN).trans ((hg.block k (by simp; omega) hne).trans (Below.heap_alloc _ _ k hk))
  have hsz : V.heap.size ≤ w6.heap.size := by have := hg.size; simp at this; omega
  have key : ∀ (y : CV), V.ownsRow N 85 3 (.slice y.2.1 y.1.length y.2.2) y.1.length (flat y.1) → (w6.setCell ⟨N, 0, none⟩ (.slice A6 (pre.length + 1) c6)).ownsRow N 85 3 (.slice y.2.1 y.1.length y.2.2) y.1.length (flat y.1) := fun y ho => own_of_block ho fun k hk => kp k (ho.lt k hk).2 (fun e => hv.not_row (by decide) ho (by rw [hk, e])) (fun e => rows_ne ho hrow (by decide) k hk e.symm)
  have hlen : (pre ++ [x]).length = pre.length + 1 := by simp
  refine ⟨⟨by simpa [World.setCell] using hsz, fun k hk => kp k (hX k hk) (fun e => by have := hA.xlo k hk; omega) (fun e => hn k e.symm hk)⟩, ⟨⟨A6, c6, by rw [hlen]; exact hv2, ?_, fun b hb hx => ?_⟩, fun y hy => ?_, fun y hy b hb => ?_, ?_, hA.xlo, hA.below.trans hbl⟩⟩
  · rw [hlen, cutsV_app]
    simpa [cutsV] using hr2
  · rw [hlen] at hb
    rcases hc b hb with h1 | h1
    · exact hn b h1 hx
    · have := hX b hx; omega
  · rcases List.mem_append.1 hy with h1 | h1
    · exact key y (hA.sq y h1)
    · simp only [List.mem_singleton] at h1; subst h1; exact key _ hok.1
  · rcases List.mem_append.1 hy with h1 | h1
    · exact hA.sx y h1 b hb
    · simp only [List.mem_singleton] at h1; subst h1; exact hok.2 b hb
  · refine List.pairwise_append.2 ⟨hA.apart, by simp, fun a ha y hy => ?_⟩
    simp only [List.mem_singleton] at hy
    subst hy
    exact fun b h1 h2 => hfr a ha b h2 h1
set_option maxRecDepth 100000 in
set_option maxHeartbeats 8000000 in
theorem appC_any (W H : Nat) (hok : okL W H = true) (Bw Bh : Nat) (w : World) (cw : w.cell? ⟨Bw, 0, none⟩ = some (.int .i64 W)) (ch : w.cell? ⟨Bh, 0, none⟩ = some (.int .i64 H)) :
    Calls Try.prog 115 #[.slice none 0 0, .func (.func 152) #[] #[.pointer (some ⟨Bw, 0, none⟩), .pointer (some ⟨Bh, 0, none⟩)]] w fun e w' => ∃ A c Cs, e = .returned (.slice A Cs.length c) ∧ Cs.map (·.1) = allF W H ∧ CL w.heap.size W H Cs (.slice A Cs.length c) w' ∧ (Cs.Pairwise fun x y => ∀ b, blk x = some b → blk y ≠ some b) ∧ Below w.heap.size w w' := by
  have hh := okL_nat.1 hok
  have hfew := allF_few hok
  obtain ⟨W2, hW2⟩ : ∃ W2, W2 = w.alloc (.cells #[.slice none 0 0] 38) := ⟨_, rfl⟩
  have hz2 : W2.heap.size = w.heap.size + 1 := by rw [hW2]; simp
  have hB2 : Below w.heap.size w W2 := by rw [hW2]; exact (Below.refl _ _).alloc (Nat.le_refl _) _
  have hX2 : Boxed W2 w.heap.size 38 (.slice none 0 0) := by rw [hW2]; exact Boxed.new _ _ _
  obtain ⟨i0, hi, hz0, hz1, hzb⟩ := info_parts infoCut
  have hseq := fun n => fill_seqz W H hh.1.1 hh.1.2 n Bw Bh w cw ch
  have HOK := Lib.hid hok
  have HFEW := Lib.hid hfew
  have hA2 : AL w.heap.size W H w (fun _ => False) [] W2 := ⟨⟨none, 0, hX2, World.ownsRow_nil _ _ _ _, fun b hb => (by cases hb)⟩, fun x hx => (by cases hx), fun x hx => (by cases hx), List.Pairwise.nil, fun k h => h.elim, hB2⟩
  have hO := AL.own (N := w.heap.size) (W := W) (H := H) (w := w)
  rw [← hz2] at hO
  clear hfew hX2 hok
  refine (callsIn_wide (n := 5)).1 ?_
  refine callsIn_of_wp_marks Try.func115 rfl trivial ?_ rfl
  simp only [Try.ntmps115, List.size_toArray, List.length_cons, List.length_nil, Nat.reduceAdd, Nat.reduceSub, Array.replicate_succ, Array.replicate_zero, List.push_toArray, List.append_toArray, List.nil_append, List.cons_append]
  gi_wp2
  rw [← hW2]
  clear hW2
  refine wpIn_rangeFunc_z rfl (by decide) (gf := 152) (lb := #[.pointer (some ⟨Bw, 0, none⟩), .pointer (some ⟨Bh, 0, none⟩)]) rfl trivial (enters_of Try.func152 (by kernel_rfl) rfl)
    (hseq _) hB2 (fun _ => rfl)
    (fun X pre V => AL w.heap.size W H w X pre V) (fun _ _ _ => False) hO
    ⟨fun _ _ _ _ _ h _ _ _ => h, fun _ _ _ _ _ _ h _ _ _ => h, fun _ _ _ _ h _ => h⟩ hA2
    (IM w.heap.size W H w) (fun X pre x V hi hok hX ⟨X', hi', hbl⟩ hN => ⟨hi, hok, fun y hy b hb he => hi'.sx y hy b he (hbl b hb), hN⟩)
    (fun X pre x A k o o' h hB hk ho => ⟨hO.turn X pre A k o o' h.1 hB hk ho, ⟨h.2.1.1, okC_put h.2.1.2 hk ho⟩, h.2.2⟩)
    (fun x a' V => ∃ Bx, V.cell? ⟨Bx, 0, none⟩ = some (.int .i64 W) ∧ V.cell? ⟨Bx, 1, none⟩ = some (.int .i64 H) ∧ V.cell? ⟨Bx, 2, none⟩ = some (.slice x.2.1 x.1.length x.2.2) ∧ a' = { tmps := #[.slice none 0 0, .func (.func 152) #[] #[.pointer (some ⟨Bw, 0, none⟩), .pointer (some ⟨Bh, 0, none⟩)], .pointer (some ⟨w.heap.size, 0, none⟩), undef, .slice none 0 0, .pointer (some ⟨Bx, 0, none⟩), .func (.func 152) #[] #[.pointer (some ⟨Bw, 0, none⟩), .pointer (some ⟨Bh, 0, none⟩)], .agg #[.int .i64 W, .int .i64 H, .slice x.2.1 x.1.length x.2.2], undef, undef, undef, undef, undef], defers := [] })
    (fun x a' A k o o' h hk ho => by
      obtain ⟨Bx, h0, h1, h2, h3⟩ := h
      have q : ∀ {p : Addr} {v : Value}, A.cell? p = some v → (A.putObj k o').cell? p = some v := fun h => cell_kept h (grownBy_putObj' A k o') (fun r e => by cases e; exact ⟨o, hk, ho⟩)
      exact ⟨Bx, q h0, q h1, q h2, h3⟩) ?assign ?body ?done ?stop
  case assign =>
    rintro l X pre ⟨L, A, c⟩ V K hm hX2 hsz hK
    dsimp only [encC]
    gi_wp2
    exact hK _ _ ((KeepsOthers.alloc _ _).from _) ⟨by simp, fun k hk => Below.heap_alloc V _ k (hX2 k hk).2⟩ ⟨hm.1.turnB (fun k hk _ _ => Below.heap_alloc V _ k hk) (hm.1.below.alloc hm.1.below.size _) (fun k hk => .inl hk) (by omega), ⟨hm.2.1.1, hm.2.1.2.1.alloc _, hm.2.1.2.2⟩, hm.2.2⟩ ⟨V.heap.size, by simp [go_sem], by simp [go_sem], by simp [go_sem], rfl⟩
  case body =>
    rintro l X pre ⟨L, A, c⟩ a' V hm ⟨Bx, x0, x1, x2, rfl⟩ hX2 hsz
    dsimp only at x0 x1 x2 ⊢
    obtain ⟨A1, c1, hv, hrow, hnx⟩ := hm.1.box
    have hvc := hv.cell
    have hBs := hm.1.below.size
    have HM := Lib.hid hm
    have hpl : pre.length ≤ 65535 := by have := hm.2.2.2; have := HFEW.out; omega
    have hb1 : pre.length + 1 ≤ maxLen := by unfold maxLen; omega
    have hb2' : (pre.length + 1) * 40 ≤ 140737488355328 := by omega
    clear hm hseq cw ch hA2 hO
    gi_wp2_with (gi_at_builtin; refine wpListIn_app2 _ rfl _ _ 38 rfl w.heap.size 28 i0 (.agg #[.int .i64 0, .int .i64 0, .slice none 0 0]) 3 40 Try.underlying38 hi hz0 hz1 hzb rfl (by decide) A1 pre.length c1 _ rfl (hrow.alloc _) ⟨V.heap.size, 0, none⟩ 1 1 [.int .i64 W, .int .i64 H, .slice A L.length c] (by decide) rfl rfl (new3 _ _ _ _ _) (oneCut _ _ _ _ _) hb1 hb2' (by simp; omega) ?_; intro A6 c6 w6 hown6 hcase; have hg : (V.alloc (.cells #[.int .i64 W, .int .i64 H, .slice A L.length c] 28)).grownBy w6 (Value.slice A1 pre.length c1).ownBlock := (by rcases hcase with ⟨_, _, h⟩ | ⟨_, h⟩; exact h; exact ⟨h.os, h.tape, h.output, h.size, fun k hk _ => h.block k hk (by simp)⟩); obtain ⟨hv1, hv2, hr2, hk2, hb2⟩ := hv.appended (by decide) hrow hBs (Nat.le_refl _) hown6 hg; have hc1 := hv1.cell; have hf1 := hv1.frozen)
    have hcc : ∀ b, (Value.slice A6 (pre.length + 1) c6).ownBlock = some b → (Value.slice A1 pre.length c1).ownBlock = some b ∨ V.heap.size < b := fun b hb => by
      rcases hcase with ⟨h, _, _⟩ | ⟨h, _⟩
      · subst h; exact .inl ((ob_len _ _ _ _).trans hb)
      · rw [h] at hb; simp at hb; exact .inr (by omega)
    obtain ⟨kx, al⟩ := AL.push (x := ((L, A, c) : CV)) HM.out (fun k hk => (hX2 k hk).2) hv hrow hnx hg hcc hv2 (by simpa [cutV] using hr2) hb2
    exact ⟨hk2.from _, kx, al⟩
  case done =>
    rintro D ys X V hD hys hA hK
    obtain ⟨A', c', hv, hrow, _⟩ := hA.box
    have hvc := hv.cell
    have HA := Lib.hid hA
    have HR := Lib.hid hrow
    clear hA hseq cw ch hA2 hO hrow
    gi_wp2
    refine ⟨by simp, .inl ⟨_, _, rfl, run_takeDeferred hK, ?_⟩⟩
    have tk : ∀ {e : TypeId} {s n : Nat} {v : Value} {xs : List Value}, V.ownsRow w.heap.size e s v n xs → (V.putObj D (.deferred none)).ownsRow w.heap.size e s v n xs := fun h => ownsRow_putObj h (.deferred none) hK rfl
    exact ⟨_, results_tmp rfl _ _ _, A', c', ys, rfl, hys, ⟨tk HR.out, fun x hx => tk (HA.out.sq x hx)⟩, HA.out.apart, HA.out.below.trans (belowK_b (w := w) (Nat.le_refl _) V D _ _ (by omega) hK rfl rfl)⟩
  case stop =>
    intro D pre W _ _ h
    exact h.elim
/-- What AllCuts returns: the list's cuts share no memory. -/
def RetAC (w : World) (W H : Int) (e : Ending) (w' : World) : Prop :=
  ∃ A c Cs, e = .returned (.tuple #[.slice A Cs.length c, .bool (okL W H)]) ∧ Cs.map (·.1) = (if okL W H then allF W.toNat H.toNat else []) ∧ CL w.heap.size W H Cs (.slice A Cs.length c) w' ∧ (Cs.Pairwise fun x y => ∀ b, blk x = some b → blk y ≠ some b) ∧ Below w.heap.size w w'
set_option maxRecDepth 100000 in
set_option maxHeartbeats 2000000 in
theorem collC_any (W H : Nat) (hok : okL W H = true) (Bw Bh : Nat) (w : World) (cw : w.cell? ⟨Bw, 0, none⟩ = some (.int .i64 W)) (ch : w.cell? ⟨Bh, 0, none⟩ = some (.int .i64 H)) :
    Calls Try.prog 67 #[.func (.func 152) #[] #[.pointer (some ⟨Bw, 0, none⟩), .pointer (some ⟨Bh, 0, none⟩)]] w fun e w' => ∃ A c Cs, e = .returned (.slice A Cs.length c) ∧ Cs.map (·.1) = allF W H ∧ CL w.heap.size W H Cs (.slice A Cs.length c) w' ∧ (Cs.Pairwise fun x y => ∀ b, blk x = some b → blk y ≠ some b) ∧ Below w.heap.size w w' := by
  have HC := Lib.hid (appC_any W H hok Bw Bh w cw ch)
  clear hok cw ch
  go_enter Try.func67, Try.ntmps67
  go_wp2_with fail
  (with_reducible refine HC.out.mono ?_)
  rintro e w2 ⟨A, c, Cs, rfl, hm, hcl, hap, hb⟩
  go_wp2_with fail
  go_ret
  exact ⟨A, c, Cs, rfl, hm, hcl, hap, hb⟩
set_option maxRecDepth 100000 in
set_option maxHeartbeats 2000000 in
theorem implAC_yes (W H : Nat) (hok : okL W H = true) (w : World) : Calls Try.prog 25 #[.int .i64 W, .int .i64 H] w (RetAC w W H) := by
  obtain ⟨w1, hw1⟩ : ∃ w1, w1 = (w.alloc (.cells #[.int .i64 W] 3)).alloc (.cells #[.int .i64 H] 3) := ⟨_, rfl⟩
  have hb1 : Below w.heap.size w w1 := by rw [hw1]; exact ((Below.refl _ _).alloc (Nat.le_refl _) _).alloc (by simp) _
  have cw : w1.cell? ⟨w.heap.size, 0, none⟩ = some (.int .i64 W) := by rw [hw1, World.cell?_alloc_lt _ _ _ (by simp)]; simp [go_sem]
  have ch : w1.cell? ⟨w.heap.size + 1, 0, none⟩ = some (.int .i64 H) := by rw [hw1]; simp [go_sem]
  have C0 := listed_yes W H hok w
  rw [← hw1] at C0
  have HC0 := Lib.hid C0
  have HC := Lib.hid (collC_any W H hok w.heap.size (w.heap.size + 1) w1 cw ch)
  have HOK := Lib.hid hok
  clear C0 cw ch hw1 hok
  go_enter Try.func25, Try.ntmps25
  go_wp2_with fail
  (with_reducible refine HC0.out.mono ?_)
  rintro e w3 ⟨rfl, rfl⟩
  go_wp2_with fail
  (with_reducible refine HC.out.mono ?_)
  rintro e w4 ⟨A, c, Cs, rfl, hm, hcl, hap, hb⟩
  go_wp2_with fail
  go_ret2
  unfold RetAC
  rw [HOK.out]
  exact ⟨A, c, Cs, rfl, by simpa using hm, ⟨own_base hcl.own hb1.size, fun x hx => own_base (hcl.sq x hx) hb1.size⟩, hap, hb1.trans (hb.mono hb1.size)⟩
end Go.Proofs.Ytdpbjmdgjhleeaa
namespace Go.Proofs.Ytdpbjmdgjhleeaa
open Go.RowKit Go.Shelf
attribute [local go_sem] Oper.semAt_some

set_option maxRecDepth 100000 in
set_option maxHeartbeats 4000000 in
theorem appC_no (Bs c : Nat) (A : Option Addr) (w : World) (hBs : w.cell? ⟨Bs, 0, none⟩ = some (.slice A 0 c)) :
    Calls Try.prog 115 #[.slice none 0 0, .func (.func 134) #[] #[.pointer (some ⟨Bs, 0, none⟩)]] w fun e w' => e = .returned (.slice none 0 0) ∧ Below w.heap.size w w' := by
  obtain ⟨W2, hW2⟩ : ∃ W2, W2 = w.alloc (.cells #[.slice none 0 0] 38) := ⟨_, rfl⟩
  have hz2 : W2.heap.size = w.heap.size + 1 := by rw [hW2]; simp
  have hB2 : Below w.heap.size w W2 := by rw [hW2]; exact (Below.refl _ _).alloc (Nat.le_refl _) _
  have hX2 : Boxed W2 w.heap.size 38 (.slice none 0 0) := by rw [hW2]; exact Boxed.new _ _ _
  have hc2 := (hB2.cell (p := ⟨Bs, 0, none⟩) (World.block_lt_of_cell? _ _ hBs)).trans hBs
  refine (callsIn_wide (n := 5)).1 ?_
  refine callsIn_of_wp_marks Try.func115 rfl trivial ?_ rfl
  simp only [Try.ntmps115, List.size_toArray, List.length_cons, List.length_nil, Nat.reduceAdd, Nat.reduceSub, Array.replicate_succ, Array.replicate_zero, List.push_toArray, List.append_toArray, List.nil_append, List.cons_append]
  gi_wp2
  rw [← hW2]
  clear hW2
  refine wpIn_rangeFunc_x rfl (by decide) (gf := 134) (lb := #[.pointer (some ⟨Bs, 0, none⟩)]) rfl trivial (enters_of Try.func134 (by kernel_rfl) rfl)
    (emptyC_seq _ Bs c A W2 hc2) (fun X x A k o o' h hk ho => h.elim) (Below.refl _ _) (fun _ => rfl)
    (fun X pre V => (∀ k, X k → W2.heap.size ≤ k) ∧ (Boxed V w.heap.size 38 (.slice none 0 0) ∧ Below w.heap.size w V)) (fun _ _ _ => False)
    (ownX_below W2.heap.size (fun (pre : List CV) V => Boxed V w.heap.size 38 (.slice none 0 0) ∧ Below w.heap.size w V) (fun s A C h hb => ⟨(hb.block w.heap.size (by omega)).trans h.1, h.2.trans (hb.mono (by omega))⟩))
    ⟨fun _ _ _ _ _ h _ _ _ => h, fun _ _ _ _ _ _ h _ _ _ => h, fun _ _ _ _ h _ => h⟩ ⟨fun k h => h.elim, hX2, hB2⟩
    (fun x a' V => False) (fun x a' A k o o' h hk ho => h) ?assign ?body ?done ?stop
  case assign =>
    rintro l X pre x V K _ hok
    exact hok.elim
  case body =>
    rintro l X pre x a' V _ hok
    exact hok.elim
  case done =>
    rintro D ys X V hD hys ⟨_, hv, hB⟩ hK
    have hvc := hv.cell
    clear hBs hc2 hX2
    gi_wp2
    refine ⟨by simp, .inl ⟨_, _, rfl, run_takeDeferred hK, ?_⟩⟩
    exact ⟨_, results_tmp rfl _ _ _, rfl, hB.trans (belowK_b (w := w) (Nat.le_refl _) V D _ _ (by omega) hK rfl rfl)⟩
  case stop =>
    intro D pre V _ _ h
    exact h.elim
set_option maxRecDepth 100000 in
set_option maxHeartbeats 2000000 in
theorem collC_no (Bs c : Nat) (A : Option Addr) (w : World) (hBs : w.cell? ⟨Bs, 0, none⟩ = some (.slice A 0 c)) :
    Calls Try.prog 67 #[.func (.func 134) #[] #[.pointer (some ⟨Bs, 0, none⟩)]] w fun e w' => e = .returned (.slice none 0 0) ∧ Below w.heap.size w w' := by
  have HC := Lib.hid (appC_no Bs c A w hBs)
  clear hBs
  go_enter Try.func67, Try.ntmps67
  go_wp2_with fail
  (with_reducible refine HC.out.mono ?_)
  rintro e w2 ⟨rfl, hb⟩
  go_wp2_with fail
  go_ret
  exact ⟨rfl, hb⟩
theorem RetAC.none_ {w w' : World} {W H : Int} (hno : okL W H = false) (hb : Below w.heap.size w w') : RetAC w W H (.returned (.tuple #[.slice none 0 0, .bool false])) w' := by
  unfold RetAC
  rw [hno]
  exact ⟨none, 0, [], rfl, rfl, ⟨World.ownsRow_nil _ _ _ _, fun x hx => (by cases hx)⟩, List.Pairwise.nil, hb⟩
set_option maxRecDepth 100000 in
set_option maxHeartbeats 2000000 in
theorem implAC_any (W H : Int) (w : World) : Calls Try.prog 25 #[.int .i64 W, .int .i64 H] w (RetAC w W H) := by
  cases hok : okL W H with
  | true =>
    obtain ⟨a, b, rfl, rfl⟩ := okL_ex hok
    exact implAC_yes a b hok w
  | false =>
    have HC := Lib.hid (listed_no W H hok w)
    have HOK := Lib.hid hok
    clear hok
    go_enter Try.func25, Try.ntmps25
    go_wp2_with fail
    (with_reducible refine HC.out.mono ?_)
    rintro e w2 ⟨Bs, A, c, rfl, hc, hb2⟩
    have HN := Lib.hid (collC_no Bs c A w2 hc)
    clear hc
    go_wp2_with fail
    (with_reducible refine HN.out.mono ?_)
    rintro e w3 ⟨rfl, hb3⟩
    go_wp2_with fail
    go_ret2
    exact RetAC.none_ HOK.out (hb2.trans (hb3.mono hb2.size))
/-- What the model's AllCuts returns. -/
def RetAS (w : World) (W H : Int) (e : Ending) (w' : World) : Prop :=
  ∃ A c Cs, e = .returned (.tuple #[.slice A Cs.length c, .bool (okL W H)]) ∧ Cs.map (·.1) = (if okL W H then allF W.toNat H.toNat else []) ∧ CL w.heap.size W H Cs (.slice A Cs.length c) w' ∧ Below w.heap.size w w'
set_option maxRecDepth 100000 in
set_option maxHeartbeats 2000000 in
theorem specAC_any (W H : Int) (w : World) : Calls Try.prog 24 #[.int .i64 W, .int .i64 H] w (RetAS w W H) := by
  have hs := ctFew_any W H w
  cases hok : okL W H with
  | false =>
    rw [hok] at hs
    have HOK := Lib.hid hok
    clear hok
    go_enter Try.func24, Try.ntmps24
    go_wp2_with fail
    refine hs.mono ?_
    rintro e w' ⟨rfl, rfl⟩
    go_wp2_with fail
    go_ret2
    unfold RetAS
    rw [HOK.out]
    exact ⟨none, 0, [], rfl, rfl, ⟨World.ownsRow_nil _ _ _ _, fun x hx => (by cases hx)⟩, Below.refl _ _⟩
  | true =>
    obtain ⟨a, b, rfl, rfl⟩ := okL_ex hok
    have hh := okL_nat.1 hok
    rw [hok] at hs
    have C := Lib.hid (ctAll_any a b (by omega) (by omega) (by omega) w)
    have HOK := Lib.hid hok
    clear hok hh
    go_enter Try.func24, Try.ntmps24
    go_wp2_with fail
    refine hs.mono ?_
    rintro e w' ⟨rfl, rfl⟩
    go_wp2_with fail
    (with_reducible refine C.out.mono ?_)
    rintro e w2 ⟨A, c, Cs, rfl, hm, hcl, hb⟩
    go_wp2_with fail
    go_ret2
    unfold RetAS
    rw [HOK.out]
    exact ⟨A, c, Cs, rfl, by rw [hm]; rfl, hcl, hb⟩
end Go.Proofs.Ytdpbjmdgjhleeaa
