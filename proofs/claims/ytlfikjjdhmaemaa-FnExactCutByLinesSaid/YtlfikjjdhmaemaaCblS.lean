/- Cuts by lines: the model's fePart. -/
import Derived.Test.YtlfikjjdhmaemaaCblI
import Derived.Test.YtlfikjjdhmaemaaLineS
set_option linter.all false
namespace Go.Proofs.Ytlfikjjdhmaemaa
open Go.RowKit

/-- Blocks that were there are as they were, but for one. -/
structure KO (o : Nat) (w w' : World) : Prop where
  os : w'.os = w.os
  tape : w'.tape = w.tape
  output : w'.output = w.output
  size : w.heap.size ≤ w'.heap.size
  block : ∀ k, k < w.heap.size → k ≠ o → w'.heap[k]? = w.heap[k]?
theorem KO.refl (o : Nat) (w : World) : KO o w w := ⟨rfl, rfl, rfl, Nat.le_refl _, fun _ _ _ => rfl⟩
theorem KO.keep {o : Nat} {w w' w'' : World} (h : KO o w w') (hb : Below w'.heap.size w' w'') : KO o w w'' :=
  ⟨hb.os.trans h.os, hb.tape.trans h.tape, hb.output.trans h.output, Nat.le_trans h.size hb.size, fun k hk hn => (hb.block k (Nat.lt_of_lt_of_le hk h.size)).trans (h.block k hk hn)⟩
theorem KO.grown {o : Nat} {w w' w'' : World} {row : Option Nat} (h : KO o w w') (hg : w'.grownBy w'' row) (hr : ∀ k, row = some k → w.heap.size ≤ k ∨ k = o) : KO o w w'' :=
  ⟨hg.os.trans h.os, hg.tape.trans h.tape, hg.output.trans h.output, Nat.le_trans h.size hg.size, fun k hk hn => (hg.block k (Nat.lt_of_lt_of_le hk h.size) (fun e => by rcases hr k e.symm with c | c <;> omega)).trans (h.block k hk hn)⟩
theorem KO.cell {o : Nat} {w w' : World} (h : KO o w w') {b i : Nat} (hb : b < w.heap.size) (hn : b ≠ o) : w'.cell? ⟨b, i, none⟩ = w.cell? ⟨b, i, none⟩ := by
  unfold World.cell?
  rw [h.block b hb hn]
/-- The table's numbers, wherever its rows lie. -/
structure TV (wT : World) (o g W H : Nat) (rb : Nat → Nat) : Prop where
  gl : g < wT.heap.size ∧ g ≠ o
  rl : ∀ x, 1 ≤ x → x ≤ W → rb x < wT.heap.size ∧ rb x ≠ o
  row : ∀ x, 1 ≤ x → x ≤ W → wT.cell? ⟨g, x, none⟩ = some (.slice (some ⟨rb x, 0, none⟩) (H + 1) (H + 1))
  num : ∀ x y, 1 ≤ x → x ≤ W → 1 ≤ y → y ≤ H → wT.cell? ⟨rb x, y, none⟩ = some (.int .i64 (best x y))
theorem TV.at {wT w' : World} {o g W H : Nat} {rb : Nat → Nat} (h : TV wT o g W H rb) (hk : KO o wT w') {x y : Nat} (a : 1 ≤ x) (b : x ≤ W) (c : 1 ≤ y) (d : y ≤ H) :
    w'.cell? ⟨g, x, none⟩ = some (.slice (some ⟨rb x, 0, none⟩) (H + 1) (H + 1)) ∧ w'.cell? ⟨rb x, y, none⟩ = some (.int .i64 (best x y)) :=
  ⟨(hk.cell h.gl.1 h.gl.2).trans (h.row x a b), (hk.cell (h.rl x a b).1 (h.rl x a b).2).trans (h.num x y a b c d)⟩
/-- The squares that are out so far. -/
structure OM (o : Nat) (wT wr : World) (A : Option Addr) (c : Nat) (L : List Sq) : Prop where
  ko : KO o wT wr
  lt : o < wT.heap.size
  cell : wr.cell? ⟨o, 0, none⟩ = some (.slice A L.length c)
  fz : wr.frozen? ⟨o, 0, none⟩ = false
  own : wr.ownsRow wT.heap.size 65 3 (.slice A L.length c) L.length (flat L)
theorem OM.keep {o : Nat} {wT wr w' : World} {A : Option Addr} {c : Nat} {L : List Sq} (h : OM o wT wr A c L) (hb : Below wr.heap.size wr w') : OM o wT w' A c L := by
  have hl := Nat.lt_of_lt_of_le h.lt h.ko.size
  exact ⟨h.ko.keep hb, h.lt, (hb.cell (p := ⟨o, 0, none⟩) hl).trans h.cell, (hb.frozen (p := ⟨o, 0, none⟩) hl).trans h.fz, own_keep h.own hb⟩
theorem OM.push {o : Nat} {wT wr w4 w6 : World} {A A6 : Option Addr} {c c6 : Nat} {L : List Sq} {q : Sq} (h : OM o wT wr A c L) (hb : Below wr.heap.size wr w4) (hg : w4.grownBy w6 (Value.slice A L.length c).ownBlock)
    (ho : w6.ownsRow wT.heap.size 65 3 (.slice A6 (L.length + 1) c6) (L.length + 1) (flat L ++ [.int .i64 q.x, .int .i64 q.y, .int .i64 q.d])) : OM o wT (w6.setCell ⟨o, 0, none⟩ (.slice A6 (L.length + 1) c6)) A6 c6 (L ++ [q]) := by
  have h4 := h.keep hb
  have hlt := h.lt
  have hl4 := Nat.lt_of_lt_of_le h.lt h4.ko.size
  have hne : (Value.slice A L.length c).ownBlock ≠ some o := fun e => by have := (h.own.lt o e).1; omega
  have k6 := h4.ko.grown hg (fun k hk => .inl (h4.own.lt k hk).1)
  have c6' := hg.cell (a := ⟨o, 0, none⟩) h4.cell (fun e => hne e.symm)
  have f6 := (hg.frozen_far ⟨o, 0, none⟩ hl4 (fun e => hne e.symm)).trans h4.fz
  have g7 := put_grown' w6 ⟨o, 0, none⟩ (.slice A6 (L.length + 1) c6)
  have hlen : (L ++ [q]).length = L.length + 1 := by simp
  refine ⟨k6.grown g7 (fun k hk => .inr (by simpa using hk.symm)), h.lt, by rw [hlen]; simp [go_sem, c6'], by simpa [go_sem] using f6, ?_⟩
  rw [hlen, flat_app]
  exact own_far ho g7 (fun k hk e => by have := (ho.lt k hk).1; simp at e; omega)
theorem OM.cells {o : Nat} {wT wr w4 w6 : World} {A : Option Addr} {c : Nat} {L : List Sq} (h : OM o wT wr A c L) (hb : Below wr.heap.size wr w4) (hg : w4.grownBy w6 (Value.slice A L.length c).ownBlock) :
    w6.cell? ⟨o, 0, none⟩ = some (.slice A L.length c) ∧ w6.frozen? ⟨o, 0, none⟩ = false := by
  have h4 := h.keep hb
  have hlt := h.lt
  have hl4 := Nat.lt_of_lt_of_le h.lt h4.ko.size
  have hne : (Value.slice A L.length c).ownBlock ≠ some o := fun e => by have := (h.own.lt o e).1; omega
  exact ⟨hg.cell (a := ⟨o, 0, none⟩) h4.cell (fun e => hne e.symm), (hg.frozen_far ⟨o, 0, none⟩ hl4 (fun e => hne e.symm)).trans h4.fz⟩
def RetP (o : Nat) (wT : World) (L : List Sq) (e : Ending) (w' : World) : Prop := e = .returned (.tuple #[]) ∧ ∃ A c, OM o wT w' A c L
set_option maxRecDepth 100000 in
set_option maxHeartbeats 16000000 in
theorem part_same {o g W : Nat} {wT : World} (x y w : Nat) (wr : World) (A : Option Addr) (c : Nat) (L : List Sq) (hO : OM o wT wr A c L) (hL : L.length ≤ 10000) (n : Nat) (hw : 1 ≤ w) :
    Calls Try.prog 93 #[.slice (some ⟨g, 0, none⟩) (W + 1) (W + 1), .int .i64 x, .int .i64 y, .int .i64 w, .int .i64 w, .pointer (some ⟨o, 0, none⟩)] wr (RetP o wT (L ++ sqN (n + 1) x y w w)) := by
  obtain ⟨j0, hj, hz0, hz1, hz2⟩ := info_parts infoSq
  rw [sqN_one (by rw [show lnDown w w = 0 from if_pos rfl]; omega) (by rw [show lnAcross w w = 0 from if_pos rfl]; omega)]
  have hi : ((w : Int) == (w : Int)) = true := by simp
  obtain ⟨_, hlt, hc0, hf0, ho0⟩ := id hO
  have hbs := hO.ko.size
  obtain ⟨N, hN⟩ : ∃ N, L.length = N := ⟨_, rfl⟩
  have HN := Lib.hid hN
  rw [hN] at hc0 ho0 hL
  have hbd1 : N + 1 ≤ maxLen := by unfold maxLen; omega
  have hbd2 : (N + 1) * 24 ≤ 140737488355328 := by omega
  have HO := Lib.hid hO
  clear hN hO
  go_enter Try.func93, Try.ntmps93
  go_wp2_with (at_builtin; refine app_list rfl _ _ _ rfl wT.heap.size 65 j0 (.agg #[.int .i64 0, .int .i64 0, .int .i64 0]) 3 24 Try.underlying27 hj hz0 hz1 hz2 rfl (by decide) (.slice A N c) N _ rfl (ho0.alloc _) (some ⟨wr.heap.size, 0, none⟩) 1 1 [.int .i64 x, .int .i64 y, .int .i64 w] rfl rfl (.inr ⟨_, rfl, new3 _ _ _ _ _⟩) (one3 _ _ _) hbd1 hbd2 (by simp; omega) ?_; intro v' w6 hown6 hgrow hv6; obtain ⟨A6, c6, rfl⟩ := own_val hown6; have hcl := HO.out.cells ((Below.refl _ _).alloc (Nat.le_refl _) _) (by rw [HN.out]; exact hgrow); rw [HN.out] at hcl; obtain ⟨d0, f0⟩ := hcl)
  go_end0
  refine ⟨rfl, A6, c6, ?_⟩
  have := HO.out.push (q := ⟨x, y, w⟩) (A6 := A6) (c6 := c6) ((Below.refl _ _).alloc (Nat.le_refl _) _) (by rw [HN.out]; exact hgrow) (by rw [HN.out]; exact hown6)
  rw [HN.out] at this
  exact this
set_option maxRecDepth 100000 in
set_option maxHeartbeats 32000000 in
theorem part_any (o g W H : Nat) (rb : Nat → Nat) (wT : World) (hW : W ≤ 60) (hH : H ≤ 60) (hV : TV wT o g W H rb) : ∀ (n x y w h : Nat) (w0 : World) (A : Option Addr) (c : Nat) (L : List Sq), OM o wT w0 A c L → L.length + w * h ≤ 9000 → w + h ≤ n → 1 ≤ w → w ≤ W → 1 ≤ h → h ≤ H → x + w ≤ 1000 → y + h ≤ 1000 →
    Calls Try.prog 93 #[.slice (some ⟨g, 0, none⟩) (W + 1) (W + 1), .int .i64 x, .int .i64 y, .int .i64 w, .int .i64 h, .pointer (some ⟨o, 0, none⟩)] w0 (RetP o wT (L ++ sqN n x y w h)) := by
  intro n
  induction n with
  | zero => intro x y w h w0 A c L hO hL hn hw0; omega
  | succ n ih =>
    intro x y w h w0 A c L hO hL hn hw0 hw hh0 hh hx hy
    by_cases he : w = h
    · subst he
      exact part_same x y w w0 A c L hO (by omega) n hw0
    have hi : ((w : Int) == (h : Int)) = false := by simp; omega
    have HE := Lib.hid he
    have HO := Lib.hid hO
    have HV := Lib.hid hV
    have IH := Lib.hid ih
    clear he hO hV ih
    go_enter Try.func93, Try.ntmps93
    go_wp2_with fail
    go_loopw [12] (fun i w6 => ∃ k : Nat, k ≤ w / 2 ∧ i = .int .i64 ((k : Int) + 1) ∧ Below w0.heap.size w0 w6 ∧ ∀ z, 1 ≤ z → z ≤ k → dn w h z ≠ best w h) (fun i _ => w / 2 + 1 - (intOf i).toNat)
    case atStart => exact ⟨0, Nat.zero_le _, rfl, Below.refl _ _, fun z a c => by omega⟩
    case round =>
      obtain ⟨k, hk, rfl, hB, hmin⟩ := hrel
      have HM := Lib.hid hmin
      clear hmin
      by_cases hlk : k < w / 2
      · have i1 : 2 * ((k : Int) + 1) ≤ (w : Int) := by omega
        obtain ⟨u, hu⟩ : ∃ u : Nat, (w : Int) - ((k : Int) + 1) = (u : Int) := ⟨w - (k + 1), by omega⟩
        have hu' : w - (k + 1) = u := by omega
        have hwr : IntKind.i64.wrap ((w : Int) - ((k : Int) + 1)) = (u : Int) := by rw [hu]; exact IntWalk.i64_in _ (by omega)
        have hws : IntKind.i64.wrap ((x : Int) + ((k : Int) + 1)) = (x : Int) + ((k : Int) + 1) := IntWalk.i64_in _ (by omega)
        have hko := (HO.out.keep hB).ko
        obtain ⟨x1, x2⟩ := HV.out.at hko (x := (k + 1)) (y := h) (by omega) (by omega) (by omega) (by omega)
        obtain ⟨y1, y2⟩ := HV.out.at hko (x := u) (y := h) (by omega) (by omega) (by omega) (by omega)
        obtain ⟨z1, z2⟩ := HV.out.at hko (x := w) (y := h) (by omega) (by omega) (by omega) (by omega)
        have b1 := best_bnd _ (k + 1) h (Nat.le_refl _) (by omega) (by omega)
        have b2 := best_bnd _ u h (Nat.le_refl _) (by omega) (by omega)
        have eA := dn_area (w := w) (h := h) (x := k + 1) (by omega) (by omega) (by omega)
        obtain ⟨Dv, hDv⟩ : ∃ Dv, dn w h (k + 1) = Dv := ⟨_, rfl⟩
        have eS : best (k + 1) h + best u h = Dv := by
          rw [← hDv]
          show best (k + 1) h + best u h = best (k + 1) h + best (w - (k + 1)) h
          rw [hu']
        rw [hDv] at eA
        have eA2 : Dv ≤ 3600 := Int.le_trans eA (by have q := Nat.mul_le_mul (show w ≤ 60 by omega) (show h ≤ 60 by omega); have e : ((w * h : Nat) : Int) = (w : Int) * (h : Int) := by simp
                                                    omega)
        have hsum : IntKind.i64.wrap (best (k + 1) h + best u h) = Dv := by rw [eS]; exact IntWalk.i64_in _ (by omega)
        have k0 : (0 : Int) ≤ (k : Int) + 1 := by omega
        have k1 : (k : Int) + 1 < (W : Int) + 1 := by omega
        have k2 : (0 : Int) ≤ (u : Int) := by omega
        have k3 : (u : Int) < (W : Int) + 1 := by omega
        have k4 : (0 : Int) ≤ (w : Int) := by omega
        have k5 : (w : Int) < (W : Int) + 1 := by omega
        have k6 : (0 : Int) ≤ (h : Int) := by omega
        have k7 : (h : Int) < (H : Int) + 1 := by omega
        have hm2 : 2 * ((k : Int) + 1) < 1000 := by omega
        have HDv := Lib.hid hDv
        have HU := Lib.hid hu'
        have ear : (k + 1) * h + u * h = w * h := by rw [← Nat.add_mul]; congr 1; omega
        have HC1 : Hid (∀ w2, OM o wT w2 A c L → Calls Try.prog 93 #[.slice (some ⟨g, 0, none⟩) (W + 1) (W + 1), .int .i64 x, .int .i64 y, .int .i64 ((k : Int) + 1), .int .i64 h, .pointer (some ⟨o, 0, none⟩)] w2 (RetP o wT (L ++ sqN n x y (k + 1) h))) := Lib.hid fun w2 h2 => by
          have q := IH.out x y (k + 1) h w2 A c L h2 (by omega) (by omega) (by omega) (by omega) (by omega) (by omega) (by omega) (by omega)
          have e1 : ((k + 1 : Nat) : Int) = (k : Int) + 1 := by omega
          rw [e1] at q
          exact q
        have HC2 : Hid (∀ w2 A2 c2, OM o wT w2 A2 c2 (L ++ sqN n x y (k + 1) h) → Calls Try.prog 93 #[.slice (some ⟨g, 0, none⟩) (W + 1) (W + 1), .int .i64 ((x : Int) + ((k : Int) + 1)), .int .i64 y, .int .i64 u, .int .i64 h, .pointer (some ⟨o, 0, none⟩)] w2 (RetP o wT ((L ++ sqN n x y (k + 1) h) ++ sqN n (x + (k + 1)) y u h))) := Lib.hid fun w2 A2 c2 h2 => by
          have l1 := (sqN_bnd n x y (k + 1) h (by omega) (by omega)).1
          have q := IH.out (x + (k + 1)) y u h w2 A2 c2 _ h2 (by rw [List.length_append]; omega) (by omega) (by omega) (by omega) (by omega) (by omega) (by omega) (by omega)
          have e1 : ((x + (k + 1) : Nat) : Int) = (x : Int) + ((k : Int) + 1) := by omega
          rw [e1] at q
          exact q
        clear hu hu' b1 b2 eA eA2 eS hDv ear hko
        by_cases heq : Dv = best w h
        · have hq : (Dv == best w h) = true := by simp [heq]
          have HQ := Lib.hid heq
          clear heq
          go_wp2_with fail
          go_region_held3 (fun w' => Below w0.heap.size w0 w' ∧ w'.cell? ⟨g, (k + 1), none⟩ = some (.slice (some ⟨rb (k + 1), 0, none⟩) (H + 1) (H + 1)) ∧ w'.cell? ⟨rb (k + 1), h, none⟩ = some (.int .i64 (best (k + 1) h)) ∧ w'.cell? ⟨g, u, none⟩ = some (.slice (some ⟨rb u, 0, none⟩) (H + 1) (H + 1)) ∧ w'.cell? ⟨rb u, h, none⟩ = some (.int .i64 (best u h)) ∧ w'.cell? ⟨g, w, none⟩ = some (.slice (some ⟨rb w, 0, none⟩) (H + 1) (H + 1)) ∧ w'.cell? ⟨rb w, h, none⟩ = some (.int .i64 (best w h)))
            (first | assumption | exact ⟨hB.drew, x1, x2, y1, y2, z1, z2⟩ | exact ⟨hB, x1, x2, y1, y2, z1, z2⟩)
            (fail)
          have hbE := And.left (by assumption)
          clear x1 x2 y1 y2 z1 z2
          have HbE := Lib.hid hbE
          clear hbE hB
          go_wp2_with fail
          refine (HC1.out _ (HO.out.keep HbE.out)).mono ?_
          rintro e w2 ⟨rfl, A2, c2, hO2⟩
          have HO2 := Lib.hid hO2
          clear hO2
          go_wp2_with fail
          refine (HC2.out _ _ _ HO2.out).mono ?_
          rintro e w3 ⟨rfl, A3, c3, hO3⟩
          have HO3 := Lib.hid hO3
          clear hO3
          go_wp2_with fail
          go_end0
          refine ⟨rfl, A3, c3, ?_⟩
          have hl : lnDown w h = k + 1 := down_case hw0 hh0 HE.out (by omega) (by omega) (HDv.out.trans HQ.out) (fun z a c => HM.out z a (by omega))
          rw [sqN_down (by rw [hl]; omega), hl, HU.out]
          rw [← List.append_assoc]
          exact HO3.out
        · have hq : (Dv == best w h) = false := by simp [heq]
          have HQ := Lib.hid heq
          clear heq
          go_wp2_with fail
          go_region_held3 (fun w' => Below w0.heap.size w0 w' ∧ w'.cell? ⟨g, (k + 1), none⟩ = some (.slice (some ⟨rb (k + 1), 0, none⟩) (H + 1) (H + 1)) ∧ w'.cell? ⟨rb (k + 1), h, none⟩ = some (.int .i64 (best (k + 1) h)) ∧ w'.cell? ⟨g, u, none⟩ = some (.slice (some ⟨rb u, 0, none⟩) (H + 1) (H + 1)) ∧ w'.cell? ⟨rb u, h, none⟩ = some (.int .i64 (best u h)) ∧ w'.cell? ⟨g, w, none⟩ = some (.slice (some ⟨rb w, 0, none⟩) (H + 1) (H + 1)) ∧ w'.cell? ⟨rb w, h, none⟩ = some (.int .i64 (best w h)))
            (first | assumption | exact ⟨hB.drew, x1, x2, y1, y2, z1, z2⟩ | exact ⟨hB, x1, x2, y1, y2, z1, z2⟩)
            (fail)
          have hbE := And.left (by assumption)
          clear x1 x2 y1 y2 z1 z2
          have HbE := Lib.hid hbE
          clear hbE hB
          go_wp2_with fail
          go_roundw
          case rel =>
            refine ⟨k + 1, by omega, by simp, HbE.out, fun z a c e => ?_⟩
            by_cases ez : z = k + 1
            · subst ez; exact HQ.out (HDv.out.symm.trans e)
            · exact HM.out z a (by omega) e
          case measure => simp [intOf]; omega
      · obtain rfl : k = w / 2 := by omega
        have i1 : ¬ 2 * (((w / 2 : Nat) : Int) + 1) ≤ (w : Int) := by omega
        have HNO := HM
        have HB0 := Lib.hid hB
        clear hB
        go_wp2_with fail
        go_loopw [13] (fun i w6 => ∃ k : Nat, k ≤ h / 2 ∧ i = .int .i64 ((k : Int) + 1) ∧ Below w0.heap.size w0 w6 ∧ ∀ z, 1 ≤ z → z ≤ k → ac w h z ≠ best w h) (fun i _ => h / 2 + 1 - (intOf i).toNat)
        case atStart => exact ⟨0, Nat.zero_le _, rfl, HB0.out, fun z a c => by omega⟩
        case round =>
          obtain ⟨k, hk, rfl, hB, hmin⟩ := hrel
          have HM := Lib.hid hmin
          clear hmin
          by_cases hlk : k < h / 2
          · have i1 : 2 * ((k : Int) + 1) ≤ (h : Int) := by omega
            obtain ⟨u, hu⟩ : ∃ u : Nat, (h : Int) - ((k : Int) + 1) = (u : Int) := ⟨h - (k + 1), by omega⟩
            have hu' : h - (k + 1) = u := by omega
            have hwr : IntKind.i64.wrap ((h : Int) - ((k : Int) + 1)) = (u : Int) := by rw [hu]; exact IntWalk.i64_in _ (by omega)
            have hws : IntKind.i64.wrap ((y : Int) + ((k : Int) + 1)) = (y : Int) + ((k : Int) + 1) := IntWalk.i64_in _ (by omega)
            have hko := (HO.out.keep hB).ko
            obtain ⟨x1, x2⟩ := HV.out.at hko (x := w) (y := (k + 1)) (by omega) (by omega) (by omega) (by omega)
            obtain ⟨y1, y2⟩ := HV.out.at hko (x := w) (y := u) (by omega) (by omega) (by omega) (by omega)
            obtain ⟨z1, z2⟩ := HV.out.at hko (x := w) (y := h) (by omega) (by omega) (by omega) (by omega)
            have b1 := best_bnd _ w (k + 1) (Nat.le_refl _) (by omega) (by omega)
            have b2 := best_bnd _ w u (Nat.le_refl _) (by omega) (by omega)
            have eA := ac_area (w := w) (h := h) (y := k + 1) (by omega) (by omega) (by omega)
            obtain ⟨Dv, hDv⟩ : ∃ Dv, ac w h (k + 1) = Dv := ⟨_, rfl⟩
            have eS : best w (k + 1) + best w u = Dv := by
              rw [← hDv]
              show best w (k + 1) + best w u = best w (k + 1) + best w (h - (k + 1))
              rw [hu']
            rw [hDv] at eA
            have eA2 : Dv ≤ 3600 := Int.le_trans eA (by have q := Nat.mul_le_mul (show w ≤ 60 by omega) (show h ≤ 60 by omega); have e : ((w * h : Nat) : Int) = (w : Int) * (h : Int) := by simp
                                                        omega)
            have hsum : IntKind.i64.wrap (best w (k + 1) + best w u) = Dv := by rw [eS]; exact IntWalk.i64_in _ (by omega)
            have k0 : (0 : Int) ≤ (k : Int) + 1 := by omega
            have k1 : (k : Int) + 1 < (H : Int) + 1 := by omega
            have k2 : (0 : Int) ≤ (u : Int) := by omega
            have k3 : (u : Int) < (H : Int) + 1 := by omega
            have k4 : (0 : Int) ≤ (w : Int) := by omega
            have k5 : (w : Int) < (W : Int) + 1 := by omega
            have k6 : (0 : Int) ≤ (h : Int) := by omega
            have k7 : (h : Int) < (H : Int) + 1 := by omega
            have hm2 : 2 * ((k : Int) + 1) < 1000 := by omega
            have HDv := Lib.hid hDv
            have HU := Lib.hid hu'
            have ear : w * (k + 1) + w * u = w * h := by rw [← Nat.mul_add]; congr 1; omega
            have HC1 : Hid (∀ w2, OM o wT w2 A c L → Calls Try.prog 93 #[.slice (some ⟨g, 0, none⟩) (W + 1) (W + 1), .int .i64 x, .int .i64 y, .int .i64 w, .int .i64 ((k : Int) + 1), .pointer (some ⟨o, 0, none⟩)] w2 (RetP o wT (L ++ sqN n x y w (k + 1)))) := Lib.hid fun w2 h2 => by
              have q := IH.out x y w (k + 1) w2 A c L h2 (by omega) (by omega) (by omega) (by omega) (by omega) (by omega) (by omega) (by omega)
              have e1 : ((k + 1 : Nat) : Int) = (k : Int) + 1 := by omega
              rw [e1] at q
              exact q
            have HC2 : Hid (∀ w2 A2 c2, OM o wT w2 A2 c2 (L ++ sqN n x y w (k + 1)) → Calls Try.prog 93 #[.slice (some ⟨g, 0, none⟩) (W + 1) (W + 1), .int .i64 x, .int .i64 ((y : Int) + ((k : Int) + 1)), .int .i64 w, .int .i64 u, .pointer (some ⟨o, 0, none⟩)] w2 (RetP o wT ((L ++ sqN n x y w (k + 1)) ++ sqN n x (y + (k + 1)) w u))) := Lib.hid fun w2 A2 c2 h2 => by
              have l1 := (sqN_bnd n x y w (k + 1) (by omega) (by omega)).1
              have q := IH.out x (y + (k + 1)) w u w2 A2 c2 _ h2 (by rw [List.length_append]; omega) (by omega) (by omega) (by omega) (by omega) (by omega) (by omega) (by omega)
              have e1 : ((y + (k + 1) : Nat) : Int) = (y : Int) + ((k : Int) + 1) := by omega
              rw [e1] at q
              exact q
            clear hu hu' b1 b2 eA eA2 eS hDv ear hko
            by_cases heq : Dv = best w h
            · have hq : (Dv == best w h) = true := by simp [heq]
              have HQ := Lib.hid heq
              clear heq
              go_wp2_with fail
              go_region_held3 (fun w' => Below w0.heap.size w0 w' ∧ w'.cell? ⟨g, w, none⟩ = some (.slice (some ⟨rb w, 0, none⟩) (H + 1) (H + 1)) ∧ w'.cell? ⟨rb w, (k + 1), none⟩ = some (.int .i64 (best w (k + 1))) ∧ w'.cell? ⟨g, w, none⟩ = some (.slice (some ⟨rb w, 0, none⟩) (H + 1) (H + 1)) ∧ w'.cell? ⟨rb w, u, none⟩ = some (.int .i64 (best w u)) ∧ w'.cell? ⟨g, w, none⟩ = some (.slice (some ⟨rb w, 0, none⟩) (H + 1) (H + 1)) ∧ w'.cell? ⟨rb w, h, none⟩ = some (.int .i64 (best w h)))
                (first | assumption | exact ⟨hB.drew, x1, x2, y1, y2, z1, z2⟩ | exact ⟨hB, x1, x2, y1, y2, z1, z2⟩)
                (fail)
              have hbE := And.left (by assumption)
              clear x1 x2 y1 y2 z1 z2
              have HbE := Lib.hid hbE
              clear hbE hB
              go_wp2_with fail
              refine (HC1.out _ (HO.out.keep HbE.out)).mono ?_
              rintro e w2 ⟨rfl, A2, c2, hO2⟩
              have HO2 := Lib.hid hO2
              clear hO2
              go_wp2_with fail
              refine (HC2.out _ _ _ HO2.out).mono ?_
              rintro e w3 ⟨rfl, A3, c3, hO3⟩
              have HO3 := Lib.hid hO3
              clear hO3
              go_wp2_with fail
              go_end0
              refine ⟨rfl, A3, c3, ?_⟩
              have hac := across_case hw0 hh0 HE.out HNO.out
              have hl : lnAcross w h = k + 1 := by
                rcases Nat.lt_trichotomy (lnAcross w h) (k + 1) with c | c | c
                · exact absurd hac.2.2.1 (HM.out _ hac.2.1.1 (by omega))
                · exact c
                · exact absurd (HDv.out.trans HQ.out) (hac.2.2.2 _ (by omega) c)
              rw [sqN_across (by rw [hac.1]; omega) (by rw [hl]; omega), hl, HU.out]
              rw [← List.append_assoc]
              exact HO3.out
            · have hq : (Dv == best w h) = false := by simp [heq]
              have HQ := Lib.hid heq
              clear heq
              go_wp2_with fail
              go_region_held3 (fun w' => Below w0.heap.size w0 w' ∧ w'.cell? ⟨g, w, none⟩ = some (.slice (some ⟨rb w, 0, none⟩) (H + 1) (H + 1)) ∧ w'.cell? ⟨rb w, (k + 1), none⟩ = some (.int .i64 (best w (k + 1))) ∧ w'.cell? ⟨g, w, none⟩ = some (.slice (some ⟨rb w, 0, none⟩) (H + 1) (H + 1)) ∧ w'.cell? ⟨rb w, u, none⟩ = some (.int .i64 (best w u)) ∧ w'.cell? ⟨g, w, none⟩ = some (.slice (some ⟨rb w, 0, none⟩) (H + 1) (H + 1)) ∧ w'.cell? ⟨rb w, h, none⟩ = some (.int .i64 (best w h)))
                (first | assumption | exact ⟨hB.drew, x1, x2, y1, y2, z1, z2⟩ | exact ⟨hB, x1, x2, y1, y2, z1, z2⟩)
                (fail)
              have hbE := And.left (by assumption)
              clear x1 x2 y1 y2 z1 z2
              have HbE := Lib.hid hbE
              clear hbE hB
              go_wp2_with fail
              go_roundw
              case rel =>
                refine ⟨k + 1, by omega, by simp, HbE.out, fun z a c e => ?_⟩
                by_cases ez : z = k + 1
                · subst ez; exact HQ.out (HDv.out.symm.trans e)
                · exact HM.out z a (by omega) e
              case measure => simp [intOf]; omega
          · exfalso
            obtain rfl : k = h / 2 := by omega
            have hac := across_case hw0 hh0 HE.out HNO.out
            exact HM.out _ hac.2.1.1 hac.2.1.2 hac.2.2.1
end Go.Proofs.Ytlfikjjdhmaemaa
