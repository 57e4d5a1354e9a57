/- Cuts collected from the program's fillings: a list whose cuts share no memory. -/
import Derived.Test.YtchabjmdjpfkfaaGreatLsA
import Derived.Maps.AppendAt
import Derived.Shelf.RegionOpen
set_option linter.all false
namespace Go.Proofs.YtchabjmdjpfkfaaGreat
open Go.RowKit Go.Shelf
attribute [local go_sem] Oper.semAt_some

theorem wpListIn_app2 {F : Fence} {nn : Nat} {P : Program} (w : World) {ops : Array Oper} {rest : List Oper} {o : Oper} {a : Act} {Q : Exit → Act → World → Prop} (hgd : o.guard = none) (s x : Operand) (t : TypeId)
    (ho : o.op = .call { callee := .builtin .append, args := #[s, x], argTypes := #[t, t] })
    (base : Nat) (e : TypeId) (i : TypeInfo) (z : Value) (size bytes : Nat) (ht : P.underlying t = some (.slice e)) (hi : P.info? e = some i) (hz : i.zero = some z)
    (hsize : i.size = size) (hby : i.bytes = bytes) (hzs : z.cells.size = size) (hsz : 0 < size) (A : Option Addr) (n k : Nat) (xs : List Value) (hs : a.eval s = .slice A n k) (hown : w.ownsRow base e size (.slice A n k) n xs)
    (ad : Addr) (m c : Nat) (news : List Value) (hm : 0 < m) (hx : a.eval x = .slice (some ad) m c) (hl : news.length = m * size) (hc : ∀ j u, news[j]? = some u → w.cell? (ad.add j) = some u) (h1 : ∀ u ∈ news, u.oneCell' = true) (h63 : n + m ≤ maxLen) (hbytes : (n + m) * bytes ≤ 140737488355328) (hbase : base ≤ w.heap.size)
    (h : ∀ A' k' w', w'.ownsRow base e size (.slice A' (n + m) k') (n + m) (xs ++ news) → ((A' = A ∧ k' = k ∧ w.grownBy w' (Value.slice A n k).ownBlock) ∨ ((Value.slice A' (n + m) k').ownBlock = some w.heap.size ∧ w.grownBy w' none)) → wpListIn F nn P ops Q rest (a.put o.dst (.slice A' (n + m) k')) w') : wpListIn F nn P ops Q (o :: rest) a w := by
  refine wpListIn_plain hgd fun K hK => ?_
  obtain ⟨A', k', w', hrun, h2, h3⟩ := app_run2 (P := P) (w := w) (c := c) base t o.type e i z size bytes ht hi hz hsize hby hzs hsz hown hm hl hc h1 h63 hbytes hbase
  unfold Oper.wpIn
  refine ⟨?_, ?_⟩
  · simp [Oper.about, ho, resolve, Target.leads, Sem.run_pure]
  · rw [Oper.semAt_plain F _ _ (by rw [ho]; intro c hc'; cases hc')]
    simp [execOp, ho, resolve, invoke, builtin, hs, hx, Result.andThen]
    simp only [show (Builtin.append_ #[t, t] o.type #[.slice A n k, .slice (some ad) m c]).run P w = .ok (.slice A' (n + m) k') w' from hrun]
    exact hK _ _ (h A' k' w' h2 h3)

/-- The block of a cut's squares. -/
def blk (x : CV) : Option Nat := (Value.slice x.2.1 x.1.length x.2.2).ownBlock
/-- Rows of different types lie in different blocks. -/
theorem rows_ne {w : World} {base base' size size' n n' : Nat} {e e' : TypeId} {v v' : Value} {xs xs' : List Value} (h : w.ownsRow base e size v n xs) (h' : w.ownsRow base' e' size' v' n' xs') (hne : e ≠ e') : ∀ b, v.ownBlock = some b → v'.ownBlock ≠ some b := by
  intro b hb hb'
  rcases h.2 with ⟨rfl, _⟩ | ⟨g, cap, cur, rfl, _, hg, _⟩
  · cases hb
  · rcases h'.2 with ⟨rfl, _⟩ | ⟨g', cap', cur', rfl, _, hg', _⟩
    · cases hb'
    · simp only [Value.ownBlock, Option.some.injEq] at hb hb'
      subst hb; subst hb'
      rw [hg] at hg'
      cases hg'
      exact hne rfl
/-- The list under way: its box at N, its row, each cut's squares; none of it is the iterator's. -/
structure AL (N : Nat) (W H : Int) (w : World) (X : Nat → Prop) (pre : List CV) (V : World) : Prop where
  box : ∃ A c, Boxed V N 42 (.slice A pre.length c) ∧ V.ownsRow N 48 3 (.slice A pre.length c) pre.length (cutsV W H pre) ∧ ∀ b, (Value.slice A pre.length c).ownBlock = some b → ¬ X b
  sq : ∀ x ∈ pre, V.ownsRow N 69 3 (.slice x.2.1 x.1.length x.2.2) x.1.length (flat x.1)
  sx : ∀ x ∈ pre, ∀ b, blk x = some b → ¬ X b
  apart : pre.Pairwise fun x y => ∀ b, blk x = some b → blk y ≠ some b
  xlo : ∀ k, X k → N < k
  below : Below N w V
theorem AL.turnB {N : Nat} {W H : Int} {w A C : World} {X X' : Nat → Prop} {pre : List CV} (h : AL N W H w X pre A) (hb : ∀ k, k < A.heap.size → ¬ X k → (∃ cur e, A.heap[k]? = some (.cells cur e (0, 0))) → C.heap[k]? = A.heap[k]?) (hbl : Below N w C) (hx : ∀ k, X' k → X k ∨ A.heap.size ≤ k) (hN : N < A.heap.size) : AL N W H w X' pre C := by
  obtain ⟨L, c, hv, hr, hn⟩ := h.box
  have key : ∀ {e : TypeId} {s n : Nat} {v : Value} {xs : List Value}, A.ownsRow N e s v n xs → (∀ b, v.ownBlock = some b → ¬ X b) → C.ownsRow N e s v n xs := fun ho hno => own_of_block ho fun k hk => hb k (ho.lt k hk).2 (hno k hk) (by
    rcases ho.2 with ⟨rfl, _⟩ | ⟨g, cap, cur, rfl, _, hg, _⟩
    · cases hk
    · simp only [Value.ownBlock, Option.some.injEq] at hk; subst hk; exact ⟨_, _, hg⟩)
  refine ⟨⟨L, c, (hb N hN (fun hX => by have := h.xlo N hX; omega) ⟨_, _, hv⟩).trans hv, key hr hn, fun b hb' hX => ?_⟩, fun x hx' => key (h.sq x hx') (h.sx x hx'), fun x hx' b hb' hX => ?_, h.apart, fun k hk => ?_, hbl⟩
  · rcases hx b hX with h1 | h1
    · exact hn b hb' h1
    · have := (hr.lt b hb').2; omega
  · rcases hx b hX with h1 | h1
    · exact h.sx x hx' b hb' h1
    · have := ((h.sq x hx').lt b hb').2; omega
  · rcases hx k hk with h1 | h1
    · exact h.xlo k h1
    · omega
theorem AL.own {N : Nat} {W H : Int} {w : World} : OwnX (N + 1) (AL N W H w) := by
  refine ⟨fun X s A C row h hg hB hr => ?_, fun X s A k o o' h hB hk ho => ?_, fun X X' s A h hx => ?_⟩
  · refine h.turnB (fun k hk hX _ => hg.block k hk (fun e => hX (hr k e.symm))) (h.below.grown hg (by omega) (fun j ej => Nat.le_of_lt (h.xlo j (hr j ej)))) (fun k hk => ?_) (by omega)
    rcases hk with hk | hk
    · exact .inl hk
    · exact .inr hk.1
  · have hlt := (Array.getElem?_eq_some_iff.1 hk).1
    refine h.turnB (fun j hj hX hc => World.putObj_heap_other (fun e => ?_)) (h.below.grown (grownBy_putObj' A k o') (by omega) (fun j e => by cases e; omega)) (fun j hj => .inl hj) (by omega)
    subst e
    obtain ⟨cur, e2, hc⟩ := hc
    rw [hk] at hc; cases hc; cases ho
  · obtain ⟨L, c, hv, hr, hn⟩ := h.box
    exact ⟨⟨L, c, hv, hr, fun b hb hX => hn b hb (hx b hX)⟩, h.sq, fun x hx' b hb hX => h.sx x hx' b hb (hx b hX), h.apart, fun k hk => h.xlo k (hx k hk), h.below⟩
/-- A cut that comes: it lies by itself. -/
def IM (N : Nat) (W H : Nat) (w : World) (X : Nat → Prop) (pre : List CV) (x : CV) (V : World) : Prop := AL N W H w X pre V ∧ (x.1 ∈ allF W H ∧ OkC N X x V) ∧ (∀ y ∈ pre, ∀ b, blk x = some b → blk y ≠ some b) ∧ pre.length < (allF W H).length
theorem AL.push {N W H : Nat} {w V w6 : World} {X : Nat → Prop} {pre : List CV} {x : CV} {A1 A6 : Option Addr} {c1 c6 : Nat} {tmp : Obj} (hm : IM N W H w X pre x V) (hX : ∀ k, X k → k < V.heap.size) (hv : Boxed V N 42 (.slice A1 pre.length c1))
    (hrow : V.ownsRow N 48 3 (.slice A1 pre.length c1) pre.length (cutsV W H pre)) (hn : ∀ b, (Value.slice A1 pre.length c1).ownBlock = some b → ¬ X b) (hg : (V.alloc tmp).grownBy w6 (Value.slice A1 pre.length c1).ownBlock)
    (hc : ∀ b, (Value.slice A6 (pre.length + 1) c6).ownBlock = some b → (Value.slice A1 pre.length c1).ownBlock = some b ∨ V.heap.size < b) (hv2 : Boxed (w6.setCell ⟨N, 0, none⟩ (.slice A6 (pre.length + 1) c6)) N 42 (.slice A6 (pre.length + 1) c6))
    (hr2 : (w6.setCell ⟨N, 0, none⟩ (.slice A6 (pre.length + 1) c6)).ownsRow N 48 3 (.slice A6 (pre.length + 1) c6) (pre.length + 1) (cutsV W H pre ++ cutV W H x)) (hbl : Below N V (w6.setCell ⟨N, 0, none⟩ (.slice A6 (pre.length + 1) c6))) :
    KeepX X V (w6.setCell ⟨N, 0, none⟩ (.slice A6 (pre.length + 1) c6)) ∧ AL N W H w X (pre ++ [x]) (w6.setCell ⟨N, 0, none⟩ (.slice A6 (pre.length + 1) c6)) := by
  obtain ⟨hA, ⟨_, hok⟩, hfr, _⟩ := hm
  have kp : ∀ k, k < V.heap.size → k ≠ N → some k ≠ (Value.slice A1 pre.length c1).ownBlock → (w6.setCell ⟨N, 0, none⟩ (.slice A6 (pre.length + 1) c6)).heap[k]? = V.heap[k]? := fun k hk hN hne => (Below.heap_setCell _ _ _ k hN).trans ((hg.block k (by simp; omega) hne).trans (Below.heap_alloc _ _ k hk))
  have hsz : V.heap.size ≤ w6.heap.size := by have := hg.size; simp at this; omega
  have key : ∀ (y : CV), V.ownsRow N 69 3 (.slice y.2.1 y.1.length y.2.2) y.1.length (flat y.1) → (w6.setCell ⟨N, 0, none⟩ (.slice A6 (pre.length + 1) c6)).ownsRow N 69 3 (.slice y.2.1 y.1.length y.2.2) y.1.length (flat y.1) := fun y ho => own_of_block ho fun k hk => kp k (ho.lt k hk).2 (fun e => hv.not_row (by decide) ho (by rw [hk, e])) (fun e => rows_ne ho hrow (by decide) k hk e.symm)
  have hlen : (pre ++ [x]).length = pre.length + 1 := by simp
  refine ⟨⟨by simpa [World.setCell] using hsz, fun k hk => kp k (hX k hk) (fun e => by have := hA.xlo k hk; omega) (fun e => hn k e.symm hk)⟩, ⟨⟨A6, c6, by rw [hlen]; exact hv2, ?_, fun b hb hx => ?_⟩, fun y hy => ?_, fun y hy b hb => ?_, ?_, hA.xlo, hA.below.trans hbl⟩⟩
  · rw [hlen, cutsV_app]
    simpa [cutsV] using hr2
  · rw [hlen] at hb
    rcases hc b hb with h1 | h1
    · exact hn b h1 hx
    · have := hX b hx; omega
  · rcases List.mem_append.1 hy with h1 | h1
    · exact key y (hA.sq y h1)
    · simp only [List.mem_singleton] at h1; subst h1; exact key _ hok.1
  · rcases List.mem_append.1 hy with h1 | h1
    · exact hA.sx y h1 b hb
    · simp only [List.mem_singleton] at h1; subst h1; exact hok.2 b hb
  · refine List.pairwise_append.2 ⟨hA.apart, by simp, fun a ha y hy => ?_⟩
    simp only [List.mem_singleton] at hy
    subst hy
    exact fun b h1 h2 => hfr a ha b h2 h1
/-- What AllCuts returns: the list's cuts share no memory. -/
def RetAC (w : World) (W H : Int) (e : Ending) (w' : World) : Prop :=
  ∃ A c Cs, e = .returned (.tuple #[.slice A Cs.length c, .bool (okL W H)]) ∧ Cs.map (·.1) = (if okL W H then allF W.toNat H.toNat else []) ∧ CL w.heap.size W H Cs (.slice A Cs.length c) w' ∧ (Cs.Pairwise fun x y => ∀ b, blk x = some b → blk y ≠ some b) ∧ Below w.heap.size w w'
end Go.Proofs.YtchabjmdjpfkfaaGreat
