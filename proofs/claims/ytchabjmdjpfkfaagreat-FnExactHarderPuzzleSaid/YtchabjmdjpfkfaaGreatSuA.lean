/- PzNd, PzSu, PzSv: texts in one. -/
import Derived.Test.YtchabjmdjpfkfaaGreatPzT2
import Derived.Test.YtchabjmdjpfkfaaGreatGen
import Derived.Test.YtchabjmdjpfkfaaGreatPzN2
set_option linter.all false
namespace Go.Proofs.YtchabjmdjpfkfaaGreat
open Go.RowKit Go.Shelf

noncomputable def ncL (W H : Int) (L : List Sq) (k : Nat) : List Int := ((List.range k).filter fun j => (solV W H (L.eraseIdx j)).length == (solV W H L).length).map (fun (j : Nat) => (j : Int))
theorem ncL_zero (W H : Int) (L : List Sq) : ncL W H L 0 = [] := rfl
theorem ncL_len (W H : Int) (L : List Sq) (k : Nat) : (ncL W H L k).length ≤ k := by
  unfold ncL; rw [List.length_map]; exact Nat.le_trans (List.length_filter_le _ _) (by simp)
theorem ncL_yes {W H : Int} {L : List Sq} {k : Nat} (h : (solV W H (L.eraseIdx k)).length = (solV W H L).length) : ncL W H L (k + 1) = ncL W H L k ++ [(k : Int)] := by
  unfold ncL; rw [List.range_succ, List.filter_append, List.map_append]; simp [h]
theorem ncL_no {W H : Int} {L : List Sq} {k : Nat} (h : ¬ (solV W H (L.eraseIdx k)).length = (solV W H L).length) : ncL W H L (k + 1) = ncL W H L k := by
  unfold ncL; rw [List.range_succ, List.filter_append, List.map_append]; simp [h]
/-- What NeedlessClues returns. -/
noncomputable def ncV (W H : Int) (L : List Sq) : List Int := if dc (GoodP W H L) then ncL W H L L.length else []
theorem ncV_yes {W H : Int} {L : List Sq} (h : GoodP W H L) : ncV W H L = ncL W H L L.length := by unfold ncV; rw [dc_true h]; rfl
theorem ncV_no {W H : Int} {L : List Sq} (h : ¬ GoodP W H L) : ncV W H L = [] := by unfold ncV; rw [dc_false h]; rfl
theorem GoodP.erase {W H : Int} {L : List Sq} (h : GoodP W H L) (k : Nat) : GoodP W H (L.eraseIdx k) :=
  ⟨h.1, by have := h.2.1; have := List.length_eraseIdx_le L k; omega, fun s hs => h.2.2 s (List.mem_of_mem_eraseIdx hs)⟩
theorem kept_solN {W H : Int} {R : List Sq} {Cs : List CV} (hm : Cs.map (·.1) = allF W.toNat H.toNat) (hw : 0 ≤ W) (hh : 0 ≤ H) (hP : GoodP W H R) : (kept W H R Cs).length = (solV W H R).length := by
  obtain ⟨a, rfl⟩ := Int.eq_ofNat_of_zero_le hw
  obtain ⟨b, rfl⟩ := Int.eq_ofNat_of_zero_le hh
  have h : (kept a b R Cs).map (·.1) = solV a b R := by rw [kept_map, hm]; unfold solV; rw [dc_true hP]; rfl
  rw [← h, List.length_map]
theorem cv3_farN {b : Nat} {V V' : World} {x y z : Value} {row : Option Nat} (h : Cv3 b V x y z) (hg : V.grownBy V' row) (hne : row ≠ some b) : Cv3 b V' x y z :=
  ⟨Nat.lt_of_lt_of_le h.lt hg.size, hg.cell h.c0 (fun e => hne e.symm), hg.cell h.c1 (fun e => hne e.symm), hg.cell h.c2 (fun e => hne e.symm)⟩
theorem CL.farN {n0 : Nat} {W H : Int} {Cs : List CV} {sl : Value} {V V' : World} (h : CL n0 W H Cs sl V) {base n : Nat} {o : Value} {xs : List Value} (ho : V.ownsRow base 3 1 o n xs) (hg : V.grownBy V' o.ownBlock) : CL n0 W H Cs sl V' :=
  ⟨own_far h.own hg (fun k hk => rows_ne h.own ho (by decide) k hk), fun x hx => own_far (h.sq x hx) hg (fun k hk => rows_ne (h.sq x hx) ho (by decide) k hk)⟩
end Go.Proofs.YtchabjmdjpfkfaaGreat
namespace Go.Proofs.YtchabjmdjpfkfaaGreat
open Go.RowKit Go.Shelf

noncomputable def suS (W H : Int) (fs : List (List Sq)) (a : Int) : Int := match fs with | [] => 0 | f :: r => if r.all (fun M => cellN W H M a == cellN W H f a) then cellN W H f a else 0
noncomputable def suU (W H : Int) (f : List Sq) (r : List (List Sq)) (a : Int) (j : Nat) : Int := if (r.take j).all (fun M => cellN W H M a == cellN W H f a) then cellN W H f a else 0
theorem suU_zero (W H : Int) (f : List Sq) (r : List (List Sq)) (a : Int) : suU W H f r a 0 = cellN W H f a := by simp [suU]
theorem suU_all (W H : Int) (f : List Sq) (r : List (List Sq)) (a : Int) : suU W H f r a r.length = suS W H (f :: r) a := by simp [suU, suS]
theorem all_take {r : List (List Sq)} {j : Nat} {M : List Sq} (h : r[j]? = some M) (p : List Sq → Bool) : (r.take (j + 1)).all p = ((r.take j).all p && p M) := by
  obtain ⟨hj, e⟩ := List.getElem?_eq_some_iff.1 h
  rw [List.take_succ_eq_append_getElem hj, List.all_append, e]; simp
theorem suU_same {W H : Int} {f : List Sq} {r : List (List Sq)} {a : Int} {j : Nat} {M : List Sq} (h : r[j]? = some M) (e : cellN W H M a = suU W H f r a j) : suU W H f r a (j + 1) = suU W H f r a j := by
  unfold suU at e ⊢
  rw [all_take h]
  cases hq : (r.take j).all (fun M => cellN W H M a == cellN W H f a) with
  | true => rw [hq] at e; simp at e; simp [e]
  | false => simp
theorem suU_ne {W H : Int} {f : List Sq} {r : List (List Sq)} {a : Int} {j : Nat} {M : List Sq} (h : r[j]? = some M) (e : ¬ cellN W H M a = suU W H f r a j) : suU W H f r a (j + 1) = 0 := by
  unfold suU at e ⊢
  rw [all_take h]
  cases hq : (r.take j).all (fun M => cellN W H M a == cellN W H f a) with
  | true => rw [hq] at e; simp at e; simp [e]
  | false => simp
theorem suS_eq {W H : Int} {f : List Sq} {r : List (List Sq)} {a : Int} (h : (f :: r).all (fun M => cellN W H M a == cellN W H f a) = true) : suS W H (f :: r) a = cellN W H f a := by
  simp only [List.all_cons, Bool.and_eq_true] at h
  unfold suS; simp only []; rw [if_pos h.2]
theorem suS_ne {W H : Int} {f : List Sq} {r : List (List Sq)} {a : Int} {M : List Sq} (hM : M ∈ f :: r) (h : ¬ cellN W H M a = cellN W H f a) : suS W H (f :: r) a = 0 := by
  unfold suS; simp only []
  refine if_neg fun hh => ?_
  rcases List.mem_cons.1 hM with rfl | hM
  · exact h rfl
  · exact h (by simpa using List.all_eq_true.1 hh M hM)
noncomputable def suL (W H : Int) (fs : List (List Sq)) (k : Nat) : List Int := (List.range k).map fun a => suS W H fs (a : Nat)
theorem suL_len (W H : Int) (fs : List (List Sq)) (k : Nat) : (suL W H fs k).length = k := by simp [suL]
theorem suL_succ (W H : Int) (fs : List (List Sq)) (k : Nat) : suL W H fs (k + 1) = suL W H fs k ++ [suS W H fs (k : Nat)] := by
  unfold suL; rw [List.range_succ, List.map_append]; rfl
/-- What SureSides returns. -/
noncomputable def suV (W H : Int) (L : List Sq) : List Int := match solV W H L with | [] => [] | f :: r => suL W H (f :: r) (W * H).toNat
noncomputable def suB (W H : Int) (L : List Sq) : Bool := match solV W H L with | [] => false | _ :: _ => true
theorem suV_no {W H : Int} {L : List Sq} (h : solV W H L = []) : suV W H L = [] ∧ suB W H L = false := by unfold suV suB; rw [h]; exact ⟨rfl, rfl⟩
theorem suV_yes {W H : Int} {L : List Sq} {f : List Sq} {r : List (List Sq)} (h : solV W H L = f :: r) : suV W H L = suL W H (f :: r) (W * H).toNat ∧ suB W H L = true := by unfold suV suB; rw [h]; exact ⟨rfl, rfl⟩
theorem sol_good {W H : Int} {L : List Sq} (hP : GoodP W H L) : ∀ M ∈ solV W H L, Good W H M := by
  obtain ⟨a, rfl⟩ := Int.eq_ofNat_of_zero_le (show 0 ≤ W by have := hP.size; omega)
  obtain ⟨b, rfl⟩ := Int.eq_ofNat_of_zero_le (show 0 ≤ H by have := hP.size; omega)
  unfold solV
  rw [dc_true hP]
  intro M hM
  exact allF_good (okP_okL hP.1) M (List.mem_filter.1 hM).1
theorem sol_P {W H : Int} {L f : List Sq} {r : List (List Sq)} (h : solV W H L = f :: r) : GoodP W H L := Classical.byContradiction fun hn => by
  unfold solV at h; rw [dc_false hn] at h; cases h
theorem CL.cut {n0 g c : Nat} {W H : Int} {Cs : List CV} {w : World} (h : CL n0 W H Cs (.slice (some ⟨g, 0, none⟩) Cs.length c) w) {k : Nat} {x : CV} (hx : Cs[k]? = some x) : SqsAt w w.heap.size x.2.1 x.1 ∧ x.1.length ≤ x.2.2 :=
  ⟨sqs_of_own (h.sq x (List.mem_of_getElem? hx)), own_cap (h.sq x (List.mem_of_getElem? hx))⟩
/-- The list under way: what is told of the first k cells, and cell k's number so far. -/
structure SU (N0 gc c1 g m : Nat) (W H : Int) (Cs : List CV) (w : World) (R : List Int) (k : Nat) (v : Option Int) (V : World) : Prop where
  bel : Below N0 w V
  cl : CL (N0 + 1) W H Cs (.slice (some ⟨gc, 0, none⟩) Cs.length c1) V
  row : ∃ xs, V.ownsRow (N0 + 1) 3 1 (.slice (some ⟨g, 0, none⟩) m m) m xs ∧ xs.take k = ints R ∧ ∀ u, v = some u → xs[k]? = some (.int .i64 u)
theorem SU.keep {N0 gc c1 g m k : Nat} {W H : Int} {Cs : List CV} {w V V' : World} {R : List Int} {v : Option Int} (h : SU N0 gc c1 g m W H Cs w R k v V) (hb : Below V.heap.size V V') (hN : N0 ≤ V.heap.size) : SU N0 gc c1 g m W H Cs w R k v V' := by
  obtain ⟨xs, ho, ht, hv⟩ := h.row
  exact ⟨h.bel.trans (hb.mono hN), h.cl.keep hb, xs, own_keep ho hb, ht, hv⟩
theorem SU.put {N0 gc c1 g m k : Nat} {W H : Int} {Cs : List CV} {w V : World} {R : List Int} {v : Option Int} (h : SU N0 gc c1 g m W H Cs w R k v V) (hk : k < m) (u : Int) : SU N0 gc c1 g m W H Cs w R k (some u) (V.setCell ⟨g, k, none⟩ (.int .i64 u)) := by
  obtain ⟨xs, ho, ht, hv⟩ := h.row
  have hx := ho.1
  have hg := (own_lt ho).1
  refine ⟨h.bel.setCell (p := ⟨g, k, none⟩) (by show N0 ≤ g; omega) _, h.cl.farN ho (put_grown _ ⟨g, k, none⟩ _), _, (ho.stored k (.int .i64 u)).1, ?_, fun u' e => ?_⟩
  · rw [← ht, List.take_set_of_le (Nat.le_refl _)]
  · cases e; simp [List.getElem?_set]; omega
theorem SU.next {N0 gc c1 g m k : Nat} {W H : Int} {Cs : List CV} {w V : World} {R : List Int} {u : Int} (h : SU N0 gc c1 g m W H Cs w R k (some u) V) (hk : k < m) : SU N0 gc c1 g m W H Cs w (R ++ [u]) (k + 1) none V := by
  obtain ⟨xs, ho, ht, hv⟩ := h.row
  refine ⟨h.bel, h.cl, xs, ho, ?_, fun u e => by cases e⟩
  obtain ⟨hx, e⟩ := List.getElem?_eq_some_iff.1 (hv u rfl)
  rw [List.take_succ_eq_append_getElem hx, ht, e, ints_app]; rfl
theorem SU.cell {N0 gc c1 g m k : Nat} {W H : Int} {Cs : List CV} {w V : World} {R : List Int} {v : Option Int} (h : SU N0 gc c1 g m W H Cs w R k v V) (hk : k < m) : g < V.heap.size ∧ N0 < g ∧ V.frozen? ⟨g, k, none⟩ = false ∧ (∃ u, V.cell? ⟨g, k, none⟩ = some u) ∧ ∀ u, v = some u → V.cell? ⟨g, k, none⟩ = some (.int .i64 u) := by
  obtain ⟨xs, ho, ht, hv⟩ := h.row
  have hx := ho.1
  refine ⟨(own_lt ho).2, (own_lt ho).1, ho.frozenAt k, own_some ho (j := k) (by omega), fun u e => ?_⟩
  exact (ho.cellAt k (by obtain ⟨q, _⟩ := List.getElem?_eq_some_iff.1 (hv u e); omega)).trans (hv u e)
set_option maxRecDepth 100000 in
set_option maxHeartbeats 16000000 in
theorem implSu_any (W H : Int) (A : Option Addr) (n c : Nat) (L : List Sq) (w : World) (hl : L.length = n) (hc : n ≤ c) (hc9 : c ≤ 1048576) (hL : SqsAt w w.heap.size A L) :
    Calls Tryz.prog 8 #[.agg #[.int .i64 W, .int .i64 H, .slice A n c]] w (RetInts w (suV W H L) (suB W H L)) := by
  have B0 : Below w.heap.size w (w.alloc (.cells #[.int .i64 W, .int .i64 H, .slice A n c] 31)) := (Below.refl _ _).alloc (Nat.le_refl _) _
  have K0 := Cv3.start w (.int .i64 W) (.int .i64 H) (.slice A n c) 31
  have C0 := Lib.hid (implSol_any W H A n c L _ hl (by omega) ((hL.below B0).mono B0.size))
  have hf := sol_few (W := W) (H := H) (L := L)
  obtain ⟨i0, hi, hz0, hz1, hz2⟩ := info_parts infoInt
  clear hL hl
  go_enter Tryz.func8, Tryz.ntmps8
  go_wp2_with fail
  (with_reducible refine C0.out.mono ?_)
  rintro e w1 hret
  unfold RetSol at hret
  obtain ⟨A1, c1, Cs, rfl, hm, hcl, -, hb1⟩ := hret
  have K1 := K0.next hb1
  have B1 := B0.trans (hb1.mono B0.size)
  rw [World.size_alloc] at hcl
  clear K0 B0 hb1 C0
  obtain ⟨N, hN⟩ : ∃ N, Cs.length = N := ⟨_, rfl⟩
  have hNs : (solV W H L).length = N := by rw [← hm, List.length_map, hN]
  rw [hNs] at hf
  rw [hN]
  by_cases h0 : N = 0
  · have hs : solV W H L = [] := List.eq_nil_of_length_eq_zero (by omega)
    have HV := Lib.hid (suV_no hs)
    subst h0
    clear hs hm hcl K1 hNs hN
    go_wp2_with fail
    go_ret2
    rw [HV.out.1, HV.out.2]
    exact RetInts.none_ B1
  · by_cases hN1' : N = 1
    · obtain rfl := hN1'
      by_cases hc1' : c1 = 1
      · obtain rfl := hc1'
        obtain ⟨f, r, hs⟩ : ∃ f r, solV W H L = f :: r := by
          cases h : solV W H L with
          | nil => rw [h] at hNs; simp at hNs; (try omega)
          | cons f r => exact ⟨f, r, rfl⟩
        have hP := sol_P hs
        have hsz := hP.size
        have hG := sol_good hP
        have HV := Lib.hid (suV_yes hs)
        rw [hs] at hm hG hNs
        obtain ⟨m, hmm⟩ : ∃ m, (W * H).toNat = m := ⟨_, rfl⟩
        have hmul : W * H = (m : Int) := by omega
        have hm12 : 1 ≤ m ∧ m ≤ 12 := by omega
        have hwr : IntKind.i64.wrap (W * H) = (m : Int) := by rw [hmul]; exact IntWalk.i64_in _ (by omega)
        have HMM := Lib.hid hmm
        have hGx : ∀ x ∈ Cs, Good W H x.1 := fun x hx => hG x.1 (by rw [← hm]; exact List.mem_map_of_mem hx)
        have hrl : r.length + 1 = 1 := by simpa using hNs
        have hfx : ∀ x, Cs[0]? = some x → x.1 = f := fun x hx => by
          have := congrArg (fun l => l[0]?) hm; simp [List.getElem?_map, hx] at this; exact this
        have hrx : ∀ j x, Cs[j + 1]? = some x → r[j]? = some x.1 := fun j x hx => by
          have := congrArg (fun l => l[j + 1]?) hm; simp [List.getElem?_map, hx] at this; exact this.symm
        have hcl1 := own_cap hcl.own
        obtain ⟨gc, rfl⟩ := own_form hcl.own (by omega)
        rw [hN] at hcl1
        have HN := Lib.hid hN
        have HG := Lib.hid hGx
        have HF := Lib.hid hfx
        have HR := Lib.hid hrx
        have hN1 : (1 : Int) ≤ (1 : Int) := by omega
        have hN2 : (1 : Int) ≤ (1 : Int) := by omega
        have hNe : ((1 : Int) == 0) = false := by simp <;> omega
        obtain ⟨kl, k0, k1, k2⟩ := id K1
        have HRL := Lib.hid hrl
        clear hs hP hG hm hmm hGx hfx hrx hN hNs hrl
        have HMUL := Lib.hid hmul
        clear hmul
        go_wp2_with (at_make; refine wpList_make_full _ rfl _ _ 26 rfl w1.heap.size 3 i0 (.int .i64 0) 1 Tryz.underlying26 hi hz0 hz1 .i64 .i64 m m m rfl rfl rfl rfl (by rw [hz2]; omega) (by unfold maxLen; omega) (Nat.le_refl _) ?_; intro w2 hown hgrow; have hb2 : Below w1.heap.size w1 w2 := (Below.refl _ w1).grown hgrow (Nat.le_refl _) (by simp))
        have S0 : SU w.heap.size gc 1 w1.heap.size m W H Cs w [] 0 none w2 := ⟨B1.trans (hb2.mono B1.size), hcl.keep hb2, _, own_base hown kl, by simp [ints], fun u e => by cases e⟩
        have hz := hb2.size
        clear hwr hown hgrow hb2 hcl k0 k1 k2 K1
        obtain ⟨g, hg⟩ : ∃ g, g = w1.heap.size := ⟨_, rfl⟩
        rw [← hg] at S0 ⊢
        have hwg : w.heap.size < g := by omega
        clear kl hz B1 hg
        go_loopw [26] (fun i wr => ∃ k : Nat, k ≤ m ∧ i = .int .i64 k ∧ SU w.heap.size gc 1 g m W H Cs w (suL W H (f :: r) k) k none wr) (fun i _ => m - (intOf i).toNat)
        case atStart => exact ⟨0, Nat.zero_le _, rfl, S0⟩
        case round =>
          obtain ⟨k, hk, rfl, hS⟩ := hrel
          clear S0
          by_cases hlt : k < m
          · obtain ⟨x0, hx0⟩ : ∃ x, Cs[0]? = some x := ⟨_, List.getElem?_eq_getElem (by rw [HN.out]; omega)⟩
            have hcl := hS.cl
            obtain ⟨y0, y1, y2⟩ := hcl.at hx0
            rw [Nat.zero_mul] at y0 y1 y2
            rw [Nat.zero_add] at y1 y2
            obtain ⟨hsq, hcap⟩ := hcl.cut hx0
            have hGx := HG.out x0 (List.mem_of_getElem? hx0)
            have hfe := HF.out x0 hx0
            have C1 := sideAt_any W H x0.2.1 x0.1.length x0.2.2 x0.1 k wr rfl hcap hsq (wf_good hGx) hGx
            have hU0 := suU_zero W H f r (k : Nat)
            have hUA := suU_all W H f r (k : Nat)
            obtain ⟨M, AM, cc⟩ := x0
            dsimp only at y0 y1 y2 hsq hcap hGx hfe C1
            obtain rfl : M = f := hfe
            obtain ⟨v, hv⟩ : ∃ v, cellN W H M k = v := ⟨_, rfl⟩
            rw [hv] at C1 hU0
            have HC1 := Lib.hid C1
            have HU0 := Lib.hid hU0
            have HUA := Lib.hid hUA
            have i1 : (0 : Int) ≤ (k : Int) := by omega
            have i2 : (k : Int) < (m : Int) := by omega
            clear C1 hU0 hUA hv hx0 hsq hGx hcl
            go_wp2_with fail
            (with_reducible refine HC1.out.mono ?_)
            rintro e w3 ⟨rfl, hb3⟩
            have S3 := hS.keep hb3 hS.bel.size
            obtain ⟨hgl, hgb, f0, ⟨v0, e0⟩, -⟩ := S3.cell hlt
            have hN4 : w.heap.size ≤ w3.heap.size := S3.bel.size
            clear y0 y1 y2 HC1 hb3 hS
            have S4 : SU w.heap.size gc 1 g m W H Cs w (suL W H (M :: r) k) k (some (suU W H M r k 0)) (w3.setCell ⟨g, k, none⟩ (.int .i64 v)) := by rw [HU0.out]; exact S3.put hlt v
            have hr0 : r.length = 0 := by have := HRL.out; omega
            rw [hr0] at HUA
            clear hr0
            go_wp2_with fail
            go_loopw [40] (fun i wr => i = .int .i64 0 ∧ SU w.heap.size gc 1 g m W H Cs w (suL W H (M :: r) k) k (some (suU W H M r k 0)) wr) (fun i _ => 1 - (intOf i).toNat)
            case atStart => exact ⟨rfl, S4⟩
            case round =>
              obtain ⟨rfl, hS⟩ := hrel
              clear S4 S3 e0 f0
              go_wp2_with fail
              have hS := hS.next hlt
              rw [HUA.out, ← suL_succ] at hS
              go_roundw
              case rel => exact ⟨k + 1, by omega, by go_num, hS⟩
              case measure => simp [intOf]; omega
          · obtain rfl : k = m := by omega
            obtain ⟨xs, ho, ht, -⟩ := hS.row
            have hx := ho.1
            rw [List.take_of_length_le (by omega)] at ht
            subst ht
            have hbel := hS.bel
            clear hS
            go_wp2_with fail
            go_ret2
            rw [HV.out.1, HV.out.2, HMM.out]
            exact RetInts.mk (suL_len _ _ _ _).symm (own_base ho (Nat.le_succ _)) hbel
      · skip
        obtain ⟨f, r, hs⟩ : ∃ f r, solV W H L = f :: r := by
          cases h : solV W H L with
          | nil => rw [h] at hNs; simp at hNs; (try omega)
          | cons f r => exact ⟨f, r, rfl⟩
        have hP := sol_P hs
        have hsz := hP.size
        have hG := sol_good hP
        have HV := Lib.hid (suV_yes hs)
        rw [hs] at hm hG hNs
        obtain ⟨m, hmm⟩ : ∃ m, (W * H).toNat = m := ⟨_, rfl⟩
        have hmul : W * H = (m : Int) := by omega
        have hm12 : 1 ≤ m ∧ m ≤ 12 := by omega
        have hwr : IntKind.i64.wrap (W * H) = (m : Int) := by rw [hmul]; exact IntWalk.i64_in _ (by omega)
        have HMM := Lib.hid hmm
        have hGx : ∀ x ∈ Cs, Good W H x.1 := fun x hx => hG x.1 (by rw [← hm]; exact List.mem_map_of_mem hx)
        have hrl : r.length + 1 = 1 := by simpa using hNs
        have hfx : ∀ x, Cs[0]? = some x → x.1 = f := fun x hx => by
          have := congrArg (fun l => l[0]?) hm; simp [List.getElem?_map, hx] at this; exact this
        have hrx : ∀ j x, Cs[j + 1]? = some x → r[j]? = some x.1 := fun j x hx => by
          have := congrArg (fun l => l[j + 1]?) hm; simp [List.getElem?_map, hx] at this; exact this.symm
        have hcl1 := own_cap hcl.own
        obtain ⟨gc, rfl⟩ := own_form hcl.own (by omega)
        rw [hN] at hcl1
        have HN := Lib.hid hN
        have HG := Lib.hid hGx
        have HF := Lib.hid hfx
        have HR := Lib.hid hrx
        have hN1 : (1 : Int) ≤ (1 : Int) := by omega
        have hN2 : (1 : Int) ≤ (c1 : Int) := by omega
        have hNe : ((1 : Int) == 0) = false := by simp <;> omega
        obtain ⟨kl, k0, k1, k2⟩ := id K1
        have HRL := Lib.hid hrl
        clear hs hP hG hm hmm hGx hfx hrx hN hNs hrl
        have HMUL := Lib.hid hmul
        clear hmul
        go_wp2_with (at_make; refine wpList_make_full _ rfl _ _ 26 rfl w1.heap.size 3 i0 (.int .i64 0) 1 Tryz.underlying26 hi hz0 hz1 .i64 .i64 m m m rfl rfl rfl rfl (by rw [hz2]; omega) (by unfold maxLen; omega) (Nat.le_refl _) ?_; intro w2 hown hgrow; have hb2 : Below w1.heap.size w1 w2 := (Below.refl _ w1).grown hgrow (Nat.le_refl _) (by simp))
        have S0 : SU w.heap.size gc c1 w1.heap.size m W H Cs w [] 0 none w2 := ⟨B1.trans (hb2.mono B1.size), hcl.keep hb2, _, own_base hown kl, by simp [ints], fun u e => by cases e⟩
        have hz := hb2.size
        clear hwr hown hgrow hb2 hcl k0 k1 k2 K1
        obtain ⟨g, hg⟩ : ∃ g, g = w1.heap.size := ⟨_, rfl⟩
        rw [← hg] at S0 ⊢
        have hwg : w.heap.size < g := by omega
        clear kl hz B1 hg
        go_loopw [26] (fun i wr => ∃ k : Nat, k ≤ m ∧ i = .int .i64 k ∧ SU w.heap.size gc c1 g m W H Cs w (suL W H (f :: r) k) k none wr) (fun i _ => m - (intOf i).toNat)
        case atStart => exact ⟨0, Nat.zero_le _, rfl, S0⟩
        case round =>
          obtain ⟨k, hk, rfl, hS⟩ := hrel
          clear S0
          by_cases hlt : k < m
          · obtain ⟨x0, hx0⟩ : ∃ x, Cs[0]? = some x := ⟨_, List.getElem?_eq_getElem (by rw [HN.out]; omega)⟩
            have hcl := hS.cl
            obtain ⟨y0, y1, y2⟩ := hcl.at hx0
            rw [Nat.zero_mul] at y0 y1 y2
            rw [Nat.zero_add] at y1 y2
            obtain ⟨hsq, hcap⟩ := hcl.cut hx0
            have hGx := HG.out x0 (List.mem_of_getElem? hx0)
            have hfe := HF.out x0 hx0
            have C1 := sideAt_any W H x0.2.1 x0.1.length x0.2.2 x0.1 k wr rfl hcap hsq (wf_good hGx) hGx
            have hU0 := suU_zero W H f r (k : Nat)
            have hUA := suU_all W H f r (k : Nat)
            obtain ⟨M, AM, cc⟩ := x0
            dsimp only at y0 y1 y2 hsq hcap hGx hfe C1
            obtain rfl : M = f := hfe
            obtain ⟨v, hv⟩ : ∃ v, cellN W H M k = v := ⟨_, rfl⟩
            rw [hv] at C1 hU0
            have HC1 := Lib.hid C1
            have HU0 := Lib.hid hU0
            have HUA := Lib.hid hUA
            have i1 : (0 : Int) ≤ (k : Int) := by omega
            have i2 : (k : Int) < (m : Int) := by omega
            clear C1 hU0 hUA hv hx0 hsq hGx hcl
            go_wp2_with fail
            (with_reducible refine HC1.out.mono ?_)
            rintro e w3 ⟨rfl, hb3⟩
            have S3 := hS.keep hb3 hS.bel.size
            obtain ⟨hgl, hgb, f0, ⟨v0, e0⟩, -⟩ := S3.cell hlt
            have hN4 : w.heap.size ≤ w3.heap.size := S3.bel.size
            clear y0 y1 y2 HC1 hb3 hS
            have S4 : SU w.heap.size gc c1 g m W H Cs w (suL W H (M :: r) k) k (some (suU W H M r k 0)) (w3.setCell ⟨g, k, none⟩ (.int .i64 v)) := by rw [HU0.out]; exact S3.put hlt v
            have hr0 : r.length = 0 := by have := HRL.out; omega
            rw [hr0] at HUA
            clear hr0
            go_wp2_with fail
            go_loopw [40] (fun i wr => i = .int .i64 0 ∧ SU w.heap.size gc c1 g m W H Cs w (suL W H (M :: r) k) k (some (suU W H M r k 0)) wr) (fun i _ => 1 - (intOf i).toNat)
            case atStart => exact ⟨rfl, S4⟩
            case round =>
              obtain ⟨rfl, hS⟩ := hrel
              clear S4 S3 e0 f0
              go_wp2_with fail
              have hS := hS.next hlt
              rw [HUA.out, ← suL_succ] at hS
              go_roundw
              case rel => exact ⟨k + 1, by omega, by go_num, hS⟩
              case measure => simp [intOf]; omega
          · obtain rfl : k = m := by omega
            obtain ⟨xs, ho, ht, -⟩ := hS.row
            have hx := ho.1
            rw [List.take_of_length_le (by omega)] at ht
            subst ht
            have hbel := hS.bel
            clear hS
            go_wp2_with fail
            go_ret2
            rw [HV.out.1, HV.out.2, HMM.out]
            exact RetInts.mk (suL_len _ _ _ _).symm (own_base ho (Nat.le_succ _)) hbel
    · skip
      obtain ⟨f, r, hs⟩ : ∃ f r, solV W H L = f :: r := by
        cases h : solV W H L with
        | nil => rw [h] at hNs; simp at hNs; (try omega)
        | cons f r => exact ⟨f, r, rfl⟩
      have hP := sol_P hs
      have hsz := hP.size
      have hG := sol_good hP
      have HV := Lib.hid (suV_yes hs)
      rw [hs] at hm hG hNs
      obtain ⟨m, hmm⟩ : ∃ m, (W * H).toNat = m := ⟨_, rfl⟩
      have hmul : W * H = (m : Int) := by omega
      have hm12 : 1 ≤ m ∧ m ≤ 12 := by omega
      have hwr : IntKind.i64.wrap (W * H) = (m : Int) := by rw [hmul]; exact IntWalk.i64_in _ (by omega)
      have HMM := Lib.hid hmm
      have hGx : ∀ x ∈ Cs, Good W H x.1 := fun x hx => hG x.1 (by rw [← hm]; exact List.mem_map_of_mem hx)
      have hrl : r.length + 1 = N := by simpa using hNs
      have hfx : ∀ x, Cs[0]? = some x → x.1 = f := fun x hx => by
        have := congrArg (fun l => l[0]?) hm; simp [List.getElem?_map, hx] at this; exact this
      have hrx : ∀ j x, Cs[j + 1]? = some x → r[j]? = some x.1 := fun j x hx => by
        have := congrArg (fun l => l[j + 1]?) hm; simp [List.getElem?_map, hx] at this; exact this.symm
      have hcl1 := own_cap hcl.own
      obtain ⟨gc, rfl⟩ := own_form hcl.own (by omega)
      rw [hN] at hcl1
      have HN := Lib.hid hN
      have HG := Lib.hid hGx
      have HF := Lib.hid hfx
      have HR := Lib.hid hrx
      have hN1 : (1 : Int) ≤ (N : Int) := by omega
      have hN2 : (N : Int) ≤ (c1 : Int) := by omega
      have hNe : ((N : Int) == 0) = false := by simp <;> omega
      obtain ⟨kl, k0, k1, k2⟩ := id K1
      have HRL := Lib.hid hrl
      clear hs hP hG hm hmm hGx hfx hrx hN hNs hrl
      have HMUL := Lib.hid hmul
      clear hmul
      go_wp2_with (at_make; refine wpList_make_full _ rfl _ _ 26 rfl w1.heap.size 3 i0 (.int .i64 0) 1 Tryz.underlying26 hi hz0 hz1 .i64 .i64 m m m rfl rfl rfl rfl (by rw [hz2]; omega) (by unfold maxLen; omega) (Nat.le_refl _) ?_; intro w2 hown hgrow; have hb2 : Below w1.heap.size w1 w2 := (Below.refl _ w1).grown hgrow (Nat.le_refl _) (by simp))
      have S0 : SU w.heap.size gc c1 w1.heap.size m W H Cs w [] 0 none w2 := ⟨B1.trans (hb2.mono B1.size), hcl.keep hb2, _, own_base hown kl, by simp [ints], fun u e => by cases e⟩
      have hz := hb2.size
      clear hwr hown hgrow hb2 hcl k0 k1 k2 K1
      obtain ⟨g, hg⟩ : ∃ g, g = w1.heap.size := ⟨_, rfl⟩
      rw [← hg] at S0 ⊢
      have hwg : w.heap.size < g := by omega
      clear kl hz B1 hg
      go_loopw [26] (fun i wr => ∃ k : Nat, k ≤ m ∧ i = .int .i64 k ∧ SU w.heap.size gc c1 g m W H Cs w (suL W H (f :: r) k) k none wr) (fun i _ => m - (intOf i).toNat)
      case atStart => exact ⟨0, Nat.zero_le _, rfl, S0⟩
      case round =>
        obtain ⟨k, hk, rfl, hS⟩ := hrel
        clear S0
        by_cases hlt : k < m
        · obtain ⟨x0, hx0⟩ : ∃ x, Cs[0]? = some x := ⟨_, List.getElem?_eq_getElem (by rw [HN.out]; omega)⟩
          have hcl := hS.cl
          obtain ⟨y0, y1, y2⟩ := hcl.at hx0
          rw [Nat.zero_mul] at y0 y1 y2
          rw [Nat.zero_add] at y1 y2
          obtain ⟨hsq, hcap⟩ := hcl.cut hx0
          have hGx := HG.out x0 (List.mem_of_getElem? hx0)
          have hfe := HF.out x0 hx0
          have C1 := sideAt_any W H x0.2.1 x0.1.length x0.2.2 x0.1 k wr rfl hcap hsq (wf_good hGx) hGx
          have hU0 := suU_zero W H f r (k : Nat)
          have hUA := suU_all W H f r (k : Nat)
          obtain ⟨M, AM, cc⟩ := x0
          dsimp only at y0 y1 y2 hsq hcap hGx hfe C1
          obtain rfl : M = f := hfe
          obtain ⟨v, hv⟩ : ∃ v, cellN W H M k = v := ⟨_, rfl⟩
          rw [hv] at C1 hU0
          have HC1 := Lib.hid C1
          have HU0 := Lib.hid hU0
          have HUA := Lib.hid hUA
          have i1 : (0 : Int) ≤ (k : Int) := by omega
          have i2 : (k : Int) < (m : Int) := by omega
          clear C1 hU0 hUA hv hx0 hsq hGx hcl
          go_wp2_with fail
          (with_reducible refine HC1.out.mono ?_)
          rintro e w3 ⟨rfl, hb3⟩
          have S3 := hS.keep hb3 hS.bel.size
          obtain ⟨hgl, hgb, f0, ⟨v0, e0⟩, -⟩ := S3.cell hlt
          have hN4 : w.heap.size ≤ w3.heap.size := S3.bel.size
          clear y0 y1 y2 HC1 hb3 hS
          have S4 : SU w.heap.size gc c1 g m W H Cs w (suL W H (M :: r) k) k (some (suU W H M r k 0)) (w3.setCell ⟨g, k, none⟩ (.int .i64 v)) := by rw [HU0.out]; exact S3.put hlt v
          have hc1n : ¬ c1 = 1 := by omega
          go_wp2_with fail
          clear e0 f0 hgl
          go_loopw [40] (fun i wr => ∃ j : Nat, j ≤ N - 1 ∧ i = .int .i64 j ∧ SU w.heap.size gc c1 g m W H Cs w (suL W H (M :: r) k) k (some (suU W H M r k j)) wr) (fun i _ => N - 1 - (intOf i).toNat)
          case atStart => exact ⟨0, Nat.zero_le _, rfl, S4⟩
          case round =>
            obtain ⟨j, hj, rfl, hS⟩ := hrel
            clear S4 S3
            by_cases hlj : j < N - 1
            · obtain ⟨x, hx⟩ : ∃ x, Cs[j + 1]? = some x := ⟨_, List.getElem?_eq_getElem (by rw [HN.out]; omega)⟩
              have hcl := hS.cl
              obtain ⟨y0, y1, y2⟩ := hcl.at hx
              rw [show (j + 1) * 3 = 3 + j * 3 by omega] at y0 y1 y2
              obtain ⟨hsq, hcap⟩ := hcl.cut hx
              have hGx := HG.out x (List.mem_of_getElem? hx)
              have hr := HR.out j x hx
              obtain ⟨M2, AM2, cc2⟩ := x
              dsimp only at y0 y1 y2 hsq hcap hGx hr
              have i3 : (0 : Int) ≤ (j : Int) := by omega
              have i4 : (j : Int) < ((N - 1 : Nat) : Int) := by omega
              have i5 : (j : Int) < (N : Int) - 1 := by omega
              have hU1 := suU_same (W := W) (H := H) (f := M) (a := (k : Nat)) hr
              have hU2 := suU_ne (W := W) (H := H) (f := M) (a := (k : Nat)) hr
              have C1 := fun (V : World) (hh : SqsAt V V.heap.size AM2 M2) => sideAt_any W H AM2 M2.length cc2 M2 k V rfl hcap hh (wf_good hGx) hGx
              obtain ⟨v2, hv2⟩ : ∃ v2, cellN W H M2 k = v2 := ⟨_, rfl⟩
              obtain ⟨u, hu⟩ : ∃ u, suU W H M r k j = u := ⟨_, rfl⟩
              simp only [hv2] at C1
              rw [hv2, hu] at hU1 hU2
              rw [hu] at hS
              have HU1 := Lib.hid hU1
              have HU2 := Lib.hid hU2
              have HCC := Lib.hid C1
              have HSQ := Lib.hid hsq
              clear hU1 hU2 hv2 hu C1 hx hr hcl hsq hGx
              go_wp2_with fail
              obtain ⟨W1, hW1⟩ : ∃ W1, W1 = wr.alloc (.cells #[.int .i64 W, .int .i64 H, .slice AM2 M2.length cc2] 48) := ⟨_, rfl⟩
              have hb1 : Below wr.heap.size wr W1 := by rw [hW1]; exact (Below.refl _ _).alloc (Nat.le_refl _) _
              have hK : Cv3 wr.heap.size W1 (.int .i64 W) (.int .i64 H) (.slice AM2 M2.length cc2) := by rw [hW1]; exact Cv3.start _ _ _ _ _
              rw [← hW1]
              clear hW1
              have S5 := hS.keep hb1 hS.bel.size
              have hsq1 : SqsAt W1 W1.heap.size AM2 M2 := (HSQ.out.below hb1).mono hb1.size
              obtain ⟨hgl, -, -, -, hce⟩ := S5.cell hlt
              have hcu := hce u rfl
              have C := fun (u : Later W1.heap.size W1) => HCC.out u.val ((hsq1.below u.ok).mono u.ok.size)
              have F0 : ∀ u : Later W1.heap.size W1, u.val.cell? ⟨wr.heap.size, 0, none⟩ = some (.int .i64 W) := fun u => (u.ok.cell (p := ⟨_, _, none⟩) hK.lt).trans hK.c0
              have F1 : ∀ u : Later W1.heap.size W1, u.val.cell? ⟨wr.heap.size, 1, none⟩ = some (.int .i64 H) := fun u => (u.ok.cell (p := ⟨_, _, none⟩) hK.lt).trans hK.c1
              have F2 : ∀ u : Later W1.heap.size W1, u.val.cell? ⟨wr.heap.size, 2, none⟩ = some (.slice AM2 M2.length cc2) := fun u => (u.ok.cell (p := ⟨_, _, none⟩) hK.lt).trans hK.c2
              have F3 : ∀ u' : Later W1.heap.size W1, u'.val.cell? ⟨g, k, none⟩ = some (.int .i64 u) := fun u' => (u'.ok.cell (p := ⟨_, _, none⟩) hgl).trans hcu
              clear y0 y1 y2 hce hcu hS hb1 hgl
              refine wp_region_sub W1.heap.size (by kernel_rfl) (by kernel_rfl) ?_
              repeat (first | go_big_quiet_step ((go_at_call 24; exact sub_of _ (Nat.le_refl _) (C _))) | quiet_step ((go_at_call 24; exact sub_of _ (Nat.le_refl _) (C _))))
              refine wpQuiet_nil ?_
              rintro w5 ⟨uu, hu⟩
              have hb5 : Below W1.heap.size W1 w5 := by rw [hu]; exact uu.ok
              clear hu uu F0 F1 F2 F3 C hsq1 hK
              have S6 := S5.keep hb5 S5.bel.size
              obtain ⟨hgl, hgb', f0, ⟨v0, e0⟩, -⟩ := S6.cell hlt
              clear S5 hb5
              by_cases he : v2 = u
              · have hq : ((v2 : Int) != u) = false := by simp [he]
                have HE := Lib.hid he
                clear he
                go_wp2_with fail
                go_roundw
                case rel => exact ⟨j + 1, by omega, by go_num, by rw [HU1.out HE.out]; exact S6⟩
                case measure => simp [intOf]; omega
              · have hq : ((v2 : Int) != u) = true := by simp [he]
                have HE := Lib.hid he
                have S7 := S6.put hlt 0
                clear he
                go_wp2_with fail
                go_roundw
                case rel => exact ⟨j + 1, by omega, by go_num, by rw [HU2.out HE.out]; exact S7⟩
                case measure => simp [intOf]; omega
            · obtain rfl : j = N - 1 := by omega
              have hrl : N - 1 = r.length := by have := HRL.out; omega
              have hSn := hS.next hlt
              rw [hrl, HUA.out, ← suL_succ] at hSn
              clear hS
              go_wp2_with fail
              go_roundw
              case rel => exact ⟨k + 1, by omega, by go_num, hSn⟩
              case measure => simp [intOf]; omega
        · obtain rfl : k = m := by omega
          obtain ⟨xs, ho, ht, -⟩ := hS.row
          have hx := ho.1
          rw [List.take_of_length_le (by omega)] at ht
          subst ht
          have hbel := hS.bel
          clear hS
          go_wp2_with fail
          go_ret2
          rw [HV.out.1, HV.out.2, HMM.out]
          exact RetInts.mk (suL_len _ _ _ _).symm (own_base ho (Nat.le_succ _)) hbel
end Go.Proofs.YtchabjmdjpfkfaaGreat
namespace Go.Proofs.YtchabjmdjpfkfaaGreat
open Go.RowKit Go.Shelf

/-- The list under way. -/
structure SuM (N0 gc c1 : Nat) (W H : Int) (A : Option Addr) (n c : Nat) (Cs : List CV) (w : World) (o : Value) (k : Nat) (R : List Int) (V : World) : Prop where
  bel : Below N0 w V
  box : Cv3 N0 V (.int .i64 W) (.int .i64 H) (.slice A n c)
  cl : CL N0 W H Cs (.slice (some ⟨gc, 0, none⟩) Cs.length c1) V
  row : V.ownsRow (N0 + 1) 3 1 o k (ints R)
theorem SuM.keep {N0 gc c1 n c k : Nat} {W H : Int} {A : Option Addr} {Cs : List CV} {w V V' : World} {o : Value} {R : List Int} (h : SuM N0 gc c1 W H A n c Cs w o k R V) (hb : Below V.heap.size V V') : SuM N0 gc c1 W H A n c Cs w o k R V' :=
  ⟨h.bel.trans (hb.mono (Nat.le_of_lt h.box.lt)), h.box.next hb, h.cl.keep hb, own_keep h.row hb⟩
theorem SuM.push {N0 gc c1 n c k k' : Nat} {W H : Int} {A : Option Addr} {Cs : List CV} {w V V' : World} {ob : Obj} {o o' : Value} {R : List Int} {u : Int} (h : SuM N0 gc c1 W H A n c Cs w o k R V) (hN : w.heap.size = N0) (ho : V'.ownsRow (N0 + 1) 3 1 o' k' (ints R ++ [.int .i64 u])) (hg : (V.alloc ob).grownBy V' o.ownBlock) : SuM N0 gc c1 W H A n c Cs w o' k' (R ++ [u]) V' := by
  have h1 := h.keep ((Below.refl _ V).alloc (Nat.le_refl _) ob)
  exact ⟨h1.bel.grown hg (Nat.le_of_lt h1.box.lt) (fun k hk => by have := (h1.row.lt k hk).1; omega), cv3_farN h1.box hg (fun e => by have := (h1.row.lt _ e).1; omega), h1.cl.farN h1.row hg, by rw [ints_app]; exact ho⟩
set_option maxRecDepth 100000 in
set_option maxHeartbeats 8000000 in
theorem specSu_yes (W H : Nat) (A : Option Addr) (n c : Nat) (L : List Sq) (w : World) (hl : L.length = n) (hn9 : n ≤ 9223372036854775807) (hL : SqsAt w w.heap.size A L) (hP : GoodP W H L) :
    Calls Tryz.prog 6 #[.agg #[.int .i64 W, .int .i64 H, .slice A n c]] w (RetInts w (suV W H L) (suB W H L)) := by
  have hok := hP.1
  have hokL := okP_okL hok
  have hask := hP.ask
  have hn6 : n ≤ 1048576 := by have := hP.2.1; omega
  have B0 : Below w.heap.size w (w.alloc (.cells #[.int .i64 W, .int .i64 H, .slice A n c] 31)) := (Below.refl _ _).alloc (Nat.le_refl _) _
  have K0 := Cv3.start w (.int .i64 W) (.int .i64 H) (.slice A n c) 31
  have C0 := Lib.hid (callB_yes (pzGood_any W H A n c L _ hl hn9 ((hL.below B0).mono B0.size)) hP)
  obtain ⟨kl, k0, k1, k2⟩ := id K0
  go_enter Tryz.func6, Tryz.ntmps6
  go_wp2_with fail
  (with_reducible refine C0.out.mono ?_)
  rintro e w1 ⟨rfl, hb⟩
  clear kl k0 k1 k2 C0
  replace K0 := K0.next hb
  replace B0 := B0.trans (hb.mono B0.size)
  clear hb
  obtain ⟨kl, k0, k1, k2⟩ := id K0
  have hT := (hL.below B0).mono B0.size
  have T1 : ∀ w', (Below w1.heap.size w1 w' ∧ w1.heap.size ≤ w'.heap.size ∧ ∀ b o, b < w1.heap.size → w'.cell? ⟨b, o, none⟩ = w1.cell? ⟨b, o, none⟩) → Calls Tryz.prog 20 #[.agg #[.int .i64 W, .int .i64 H, .slice A n c]] w' (RetCL w' W H (allF W H)) := fun w' _ => ofSize_any W H hok A n c w'
  have T2 : ∀ (n0 : Nat) (A1 : Option Addr) (c1 : Nat) (Cs : List CV) (w' : World), (Below w1.heap.size w1 w' ∧ w1.heap.size ≤ w'.heap.size ∧ ∀ b o, b < w1.heap.size → w'.cell? ⟨b, o, none⟩ = w1.cell? ⟨b, o, none⟩) → Cs.map (·.1) = allF W H → n0 ≤ w'.heap.size → CL n0 W H Cs (.slice A1 Cs.length c1) w' → Calls Tryz.prog 19 #[.slice A1 Cs.length c1, .slice A n c] w' fun e w'' => ∃ A' c', e = .returned (.slice A' (kept W H L Cs).length c') ∧ CL n0 W H (kept W H L Cs) (.slice A' (kept W H L Cs).length c') w'' ∧ Below w'.heap.size w' w'' := fun n0 A1 c1 Cs w' hS hm hn0 hcl =>
    pzAll_any W H n0 A1 c1 Cs A n c L w' hn0 (by have := congrArg List.length hm; rw [List.length_map] at this; rw [this]; exact allF_few hokL) hcl (fun x hx => allF_good hokL _ (by rw [← hm]; exact List.mem_map_of_mem hx)) hl hn6 (sqsS hT hS) hask
  have HB0 := Lib.hid B0
  have HK0 := Lib.hid K0
  have HP := Lib.hid hP
  have HKL := Lib.hid hokL
  clear hL hT hl B0 K0 hok hask hP hokL
  go_wp2_with fail
  go_region_held3 (fun w' => Below w1.heap.size w1 w' ∧ w1.heap.size ≤ w'.heap.size ∧ ∀ b o, b < w1.heap.size → w'.cell? ⟨b, o, none⟩ = w1.cell? ⟨b, o, none⟩)
    (first | assumption | exact keepS (by assumption) (by assumption) | exact ⟨(Below.refl _ _).drew, Nat.le_refl _, fun _ _ _ => rfl⟩)
    (first
      | (go_at_call 20; (with_reducible refine (T1 _ (by assumption)).mono ?_); rintro e wt ⟨A1, c1, Cs, rfl, hm, hcl, hbt⟩)
      | (go_at_call 19; (with_reducible refine (T2 _ _ _ _ _ (by assumption) hm (by first | exact hbt.size | (have := hbt.size; simpa using this)) hcl).mono ?_); rintro e w2 ⟨A2, c2, rfl, hcl2, hb2⟩))
  have hb := belowS (B := w1.heap.size) (wp := w2) (by assumption)
  have hbase : w.heap.size ≤ w1.drew.heap.size := by simpa using HB0.out.size
  have hmk : (kept W H L Cs).map (·.1) = solV W H L := by rw [kept_map, hm]; unfold solV; rw [dc_true HP.out]; rfl
  obtain ⟨Ks, hKs⟩ : ∃ Ks, kept W H L Cs = Ks := ⟨_, rfl⟩
  rw [hKs] at hmk hcl2 ⊢
  have hcl3 : CL w.heap.size W H Ks (.slice A2 Ks.length c2) w2 := ⟨own_base hcl2.own hbase, fun x hx => own_base (hcl2.sq x hx) hbase⟩
  have hbf := HB0.out.trans (hb.mono HB0.out.size)
  have hlen : Ks.length = (solV W H L).length := by rw [← hmk]; simp
  have HC3 := Lib.hid hcl3
  have HMK := Lib.hid hmk
  have HLEN := Lib.hid hlen
  clear hKs hcl hcl2 hcl3 hmk hlen hm T1 T2 hbt hb2 kl k0 k1 k2 hb
  obtain ⟨N, hN⟩ : ∃ N, Ks.length = N := ⟨_, rfl⟩
  have hNs : (solV W H L).length = N := by rw [← HLEN.out, hN]
  have hf := sol_few (W := W) (H := H) (L := L)
  rw [hNs] at hf
  rw [hN]
  obtain ⟨i0, hi, hz0, hz1, hz2⟩ := info_parts infoInt
  by_cases h0 : N = 0
  · have hs : solV W H L = [] := List.eq_nil_of_length_eq_zero (by omega)
    have HV := Lib.hid (suV_no (W := W) (H := H) (L := L) hs)
    subst h0
    clear hs hNs hN HC3 HMK HLEN
    go_wp2_with fail
    go_ret2
    rw [HV.out.1, HV.out.2]
    exact RetInts.none_ hbf
  · obtain ⟨f, r, hs⟩ : ∃ f r, solV W H L = f :: r := by
      cases h : solV W H L with
      | nil => rw [h] at hNs; simp at hNs; (try omega)
      | cons f r => exact ⟨f, r, rfl⟩
    have hP := HP.out
    have hsz := hP.size
    have hG := sol_good hP
    have HV := Lib.hid (suV_yes (W := W) (H := H) hs)
    have hm := HMK.out
    rw [hs] at hm hG hNs
    obtain ⟨m, hmm⟩ : ∃ m, ((W : Int) * (H : Int)).toNat = m := ⟨_, rfl⟩
    have hmul : (W : Int) * (H : Int) = (m : Int) := by omega
    have hm12 : 1 ≤ m ∧ m ≤ 12 := by omega
    have hwr : IntKind.i64.wrap ((W : Int) * (H : Int)) = (m : Int) := by rw [hmul]; exact IntWalk.i64_in _ (by omega)
    have HMM := Lib.hid hmm
    have hGx : ∀ x : CV, x ∈ Ks → Good W H x.1 := fun (x : CV) hx => hG x.1 (by rw [← hm]; exact List.mem_map_of_mem hx)
    have hfx : ∀ x : CV, Ks[0]? = some x → x.1 = f := fun x hx => by
      have := congrArg (fun l => l[0]?) hm; simp [List.getElem?_map, hx] at this; exact this
    have hrx : ∀ (j : Nat) (x : CV), Ks[j]? = some x → (f :: r)[j]? = some x.1 := fun j x hx => by
      have := congrArg (fun l => l[j]?) hm; rw [List.getElem?_map, hx] at this; exact this.symm
    have hcl := HC3.out
    obtain ⟨gc, rfl⟩ := own_form hcl.own (by omega)
    have hrl : (f :: r).length = N := hNs
    have S0 : SuM w.heap.size gc c2 W H A n c Ks w (.slice none 0 0) 0 [] w2 := ⟨hbf, HK0.out.next (belowS (B := w1.heap.size) (wp := w2) (by assumption)), hcl, World.ownsRow_nil _ _ _ _⟩
    have HN := Lib.hid hN
    have HG := Lib.hid hGx
    have HF := Lib.hid hfx
    have HR := Lib.hid hrx
    have HRL := Lib.hid hrl
    have hNe : ((N : Int) == 0) = false := by simp <;> omega
    clear hs hP hG hm hmm hGx hfx hrx hN hNs hrl hcl hbf HC3 HMK HLEN
    go_wp2_with fail
    go_loopw [5, 6] (fun o i wr => ∃ k : Nat, k ≤ m ∧ i = .int .i64 k ∧ SuM w.heap.size gc c2 W H A n c Ks w o k (suL W H (f :: r) k) wr) (fun _ i _ => m - (intOf i).toNat)
    case atStart => exact ⟨0, Nat.zero_le _, rfl, S0⟩
    case round =>
      obtain ⟨k, hk, rfl, hS⟩ := hrel
      clear S0
      obtain ⟨Ao, co, rfl⟩ := own_val hS.row
      obtain ⟨kl, k0, k1, k2⟩ := id hS.box
      have hN8 := hS.bel.size
      by_cases hlt : k < m
      · obtain ⟨x0, hx0⟩ : ∃ x, Ks[0]? = some x := ⟨_, List.getElem?_eq_getElem (by rw [HN.out]; omega)⟩
        have hcl := hS.cl
        obtain ⟨y0, y1, y2⟩ := hcl.at hx0
        rw [Nat.zero_mul] at y0 y1 y2
        rw [Nat.zero_add] at y1 y2
        obtain ⟨hsq, hcap⟩ := hcl.cut hx0
        have hGx := HG.out x0 (List.mem_of_getElem? hx0)
        have hfe := HF.out x0 hx0
        have C1 := pv_2 W H x0.2.1 x0.1.length x0.2.2 x0.1 k wr rfl hcap hsq hGx
        have hE := suS_eq (W := W) (H := H) (f := f) (r := r) (a := (k : Nat))
        have hZ := fun M => suS_ne (W := W) (H := H) (f := f) (r := r) (a := (k : Nat)) (M := M)
        have hsu := suL_succ W H (f :: r) k
        obtain ⟨M0, AM, cc⟩ := x0
        dsimp only at y0 y1 y2 hsq hcap hGx hfe C1
        subst hfe
        obtain ⟨v, hv⟩ : ∃ v, cellN W H M0 k = v := ⟨_, rfl⟩
        simp only [hv] at C1 hE hZ
        have HC1 := Lib.hid C1
        have HE := Lib.hid hE
        have HZ := Lib.hid hZ
        have HSU := Lib.hid hsu
        have i1 : (0 : Int) ≤ (k : Int) := by omega
        have i2 : (k : Int) < (m : Int) := by omega
        clear C1 hE hZ hsu hv hx0 hsq hGx hcl
        go_wp2_with fail
        (with_reducible refine HC1.out.mono ?_)
        rintro e w3 ⟨rfl, hb3⟩
        have S3 := hS.keep hb3
        clear y0 y1 y2 HC1 hb3 hS kl k0 k1 k2 hN8
        go_wp2_with fail
        go_loopw [7, 37] (fun sv i wr => ∃ j : Nat, j ≤ N ∧ i = .int .i64 j ∧ sv = .int .i64 v ∧ ((M0 :: r).take j).all (fun M => cellN W H M k == v) = true ∧ SuM w.heap.size gc c2 W H A n c Ks w (.slice Ao k co) k (suL W H (M0 :: r) k) wr) (fun _ i _ => N - (intOf i).toNat)
        case atStart => exact ⟨0, Nat.zero_le _, rfl, rfl, by simp, S3⟩
        case round =>
          obtain ⟨j, hj, rfl, rfl, hall, hS⟩ := hrel
          clear S3
          have hall := Lib.hid hall
          by_cases hlj : j < N
          · obtain ⟨x, hx⟩ : ∃ x, Ks[j]? = some x := ⟨_, List.getElem?_eq_getElem (by rw [HN.out]; omega)⟩
            have hcl := hS.cl
            obtain ⟨y0, y1, y2⟩ := hcl.at hx
            obtain ⟨hsq, hcap⟩ := hcl.cut hx
            have hGx := HG.out x (List.mem_of_getElem? hx)
            have hr := HR.out j x hx
            obtain ⟨M2, AM2, cc2⟩ := x
            dsimp only at y0 y1 y2 hsq hcap hGx hr
            have i3 : (0 : Int) ≤ (j : Int) := by omega
            have i4 : (j : Int) < (N : Int) := by omega
            have hU1 := all_take hr (fun M => cellN W H M k == v)
            have hU2 := HZ.out M2 (List.mem_of_getElem? hr)
            have C1 := fun (V : World) (hh : SqsAt V V.heap.size AM2 M2) => pv_2 W H AM2 M2.length cc2 M2 k V rfl hcap hh hGx
            obtain ⟨v2, hv2⟩ : ∃ v2, cellN W H M2 k = v2 := ⟨_, rfl⟩
            simp only [hv2] at C1 hU1 hU2
            have hb1 : Below wr.heap.size wr (wr.alloc (.cells #[.int .i64 W, .int .i64 H, .slice AM2 M2.length cc2] 48)) := (Below.refl _ _).alloc (Nat.le_refl _) _
            have HC1 := Lib.hid (C1 _ ((hsq.below hb1).mono hb1.size))
            have HU1 := Lib.hid hU1
            have HU2 := Lib.hid hU2
            have S5 := hS.keep hb1
            clear hU1 hU2 hv2 C1 hx hr hcl hsq hGx hb1
            go_wp2_with fail
            (with_reducible refine HC1.out.mono ?_)
            rintro e w5 ⟨rfl, hb5⟩
            have S6 := S5.keep hb5
            have hN8 := S6.bel.size
            clear S5 hb5 hS y0 y1 y2 HC1
            by_cases he : v2 = v
            · have hq : ((v2 : Int) != v) = false := by simp [he]
              have HEQ := Lib.hid he
              clear he
              go_wp2_with fail
              go_roundw
              case rel => exact ⟨j + 1, by omega, by go_num, rfl, by rw [HU1.out, hall.out, HEQ.out]; simp, S6⟩
              case measure => simp [intOf]; omega
            · have hq : ((v2 : Int) != v) = true := by simp [he]
              have HEQ := Lib.hid he
              clear he
              have hown9 := S6.row
              have HS := Lib.hid S6
              clear S6
              go_wp2_with (at_builtin; refine wpList_append_own _ rfl _ _ 26 rfl (w.heap.size + 1) 3 i0 (.int .i64 0) 1 8 Tryz.underlying26 hi hz0 hz1 hz2 rfl (by decide) _ _ _ rfl (hown9.alloc _) ⟨w5.heap.size, 0, none⟩ 1 1 [.int .i64 0] rfl rfl ?c1 ?c2 ?c3 ?c4 ?c5 ?_)
              case c1 =>
                intro j u hj
                match j, hj with
                | 0, hj => simp at hj; subst hj; simp [Addr.add]
              case c2 => intro u hu; simp at hu; subst hu; rfl
              case c3 => unfold maxLen; omega
              case c4 => omega
              case c5 => simp <;> omega
              intro v' w4 hown4 hgrow _
              have S9 := HS.out.push rfl hown4 hgrow
              rw [← HU2.out HEQ.out, ← HSU.out] at S9
              clear hown9 hown4 hgrow HS
              go_wp2_with fail
              go_roundw
              case rel => exact ⟨k + 1, by omega, by go_num, S9⟩
              case measure => simp [intOf]; omega
          · obtain rfl : j = N := by omega
            have hN8 := hS.bel.size
            have hown9 := hS.row
            have HS := Lib.hid hS
            clear hS
            go_wp2_with (at_builtin; refine wpList_append_own _ rfl _ _ 26 rfl (w.heap.size + 1) 3 i0 (.int .i64 0) 1 8 Tryz.underlying26 hi hz0 hz1 hz2 rfl (by decide) _ _ _ rfl (hown9.alloc _) ⟨wr.heap.size, 0, none⟩ 1 1 [.int .i64 v] rfl rfl ?c1 ?c2 ?c3 ?c4 ?c5 ?_)
            case c1 =>
              intro j u hj
              match j, hj with
              | 0, hj => simp at hj; subst hj; simp [Addr.add]
            case c2 => intro u hu; simp at hu; subst hu; rfl
            case c3 => unfold maxLen; omega
            case c4 => omega
            case c5 => simp <;> omega
            intro v' w4 hown4 hgrow _
            have S9 := HS.out.push rfl hown4 hgrow
            rw [← HE.out (by have h := hall.out; rw [← HRL.out, List.take_length] at h; exact h), ← HSU.out] at S9
            clear hown9 hown4 hgrow HS
            go_wp2_with fail
            go_roundw
            case rel => exact ⟨k + 1, by omega, by go_num, S9⟩
            case measure => simp [intOf]; omega
      · obtain rfl : k = m := by omega
        have hrow := hS.row
        have hbel := hS.bel
        clear hS
        go_wp2_with fail
        go_ret2
        rw [HV.out.1, HV.out.2, HMM.out]
        exact RetInts.mk (suL_len _ _ _ _).symm (own_base hrow (Nat.le_succ _)) hbel
theorem specSu_any (W H : Int) (A : Option Addr) (n c : Nat) (L : List Sq) (w : World) (hl : L.length = n) (hc : n ≤ c) (hc9 : c ≤ 1048576) (hL : SqsAt w w.heap.size A L) :
    Calls Tryz.prog 6 #[.agg #[.int .i64 W, .int .i64 H, .slice A n c]] w (RetInts w (suV W H L) (suB W H L)) := by
  by_cases hP : GoodP W H L
  · obtain ⟨a, rfl⟩ := Int.eq_ofNat_of_zero_le (show 0 ≤ W by have := hP.size; omega)
    obtain ⟨b, rfl⟩ := Int.eq_ofNat_of_zero_le (show 0 ≤ H by have := hP.size; omega)
    exact specSu_yes a b A n c L w hl (by omega) hL hP
  · have B0 : Below w.heap.size w (w.alloc (.cells #[.int .i64 W, .int .i64 H, .slice A n c] 31)) := (Below.refl _ _).alloc (Nat.le_refl _) _
    have C0 := Lib.hid (callB_no (pzGood_any W H A n c L _ hl (by omega) ((hL.below B0).mono B0.size)) hP)
    have hs : solV W H L = [] := by unfold solV; rw [dc_false hP]; rfl
    rw [(suV_no hs).1, (suV_no hs).2]
    clear hP hL hl hs
    go_enter Tryz.func6, Tryz.ntmps6
    go_wp2_with fail
    (with_reducible refine C0.out.mono ?_)
    rintro e w1 ⟨rfl, hb1⟩
    go_wp2_with fail
    go_ret2
    exact RetInts.none_ (B0.trans (hb1.mono B0.size))
theorem suV_len (W H : Int) (L : List Sq) : (suV W H L).length ≤ 1048576 := by
  cases h : solV W H L with
  | nil => rw [(suV_no h).1]; simp
  | cons f r => rw [(suV_yes h).1, suL_len]; have := (sol_P h).size; omega
end Go.Proofs.YtchabjmdjpfkfaaGreat
