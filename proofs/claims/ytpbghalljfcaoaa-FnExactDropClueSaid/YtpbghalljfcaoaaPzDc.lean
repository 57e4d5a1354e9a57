/- A clue taken out: both sides. -/
import Derived.Test.YtpbghalljfcaoaaPzCo
set_option linter.all false
namespace Go.Proofs.Ytpbghalljfcaoaa
open Go.RowKit

/-- The two boxes of a call with a puzzle: it, and the result's. -/
structure DZ (w V : World) (W H : Int) (A : Option Addr) (n c : Nat) : Prop where
  bel : Below w.heap.size w V
  P : Cv3 w.heap.size V (.int .i64 W) (.int .i64 H) (.slice A n c)
  R : Cv3 (w.heap.size + 1) V (.int .i64 0) (.int .i64 0) (.slice none 0 0)
  fz : ∀ o, V.frozen? ⟨w.heap.size + 1, o, none⟩ = false
theorem DZ.keep {w V V' : World} {W H : Int} {A : Option Addr} {n c : Nat} (h : DZ w V W H A n c) (hb : Below V.heap.size V V') : DZ w V' W H A n c :=
  ⟨h.bel.trans (hb.mono h.bel.size), h.P.next hb, h.R.next hb, fun o => (hb.frozen (p := ⟨w.heap.size + 1, o, none⟩) h.R.lt).trans (h.fz o)⟩
theorem DZ.start (w : World) (W H : Int) (A : Option Addr) (n c : Nat) : DZ w ((w.alloc (.cells #[.int .i64 W, .int .i64 H, .slice A n c] 35)).alloc (.cells #[.int .i64 0, .int .i64 0, .slice none 0 0] 35)) W H A n c := by
  have b1 : ∀ (V : World) (o : Obj), Below V.heap.size V (V.alloc o) := fun V o => (Below.refl _ _).alloc (Nat.le_refl _) o
  have P0 := Cv3.start w (.int .i64 W) (.int .i64 H) (.slice A n c) 35
  have R0 := Cv3.start (w.alloc (.cells #[.int .i64 W, .int .i64 H, .slice A n c] 35)) (.int .i64 0) (.int .i64 0) (.slice none 0 0) 35
  rw [World.size_alloc] at R0
  exact ⟨(b1 _ _).alloc (by simp) _, P0.next (b1 _ _), R0, fun o => World.frozen?_alloc_at _ _ _ _ (by simp)⟩
def DcOk (W H : Int) (L : List Sq) (k : Int) : Prop := GoodP W H L ∧ 0 ≤ k ∧ k < L.length
noncomputable def dcV (W H : Int) (L : List Sq) (k : Int) : Int × Int × List Sq × Bool := if dc (DcOk W H L k) then (W, H, L.eraseIdx k.toNat, true) else (0, 0, [], false)
theorem dcV_yes {W H : Int} {L : List Sq} {k : Int} (h : DcOk W H L k) : dcV W H L k = (W, H, L.eraseIdx k.toNat, true) := by unfold dcV; rw [dc_true h]; rfl
theorem dcV_no {W H : Int} {L : List Sq} {k : Int} (h : ¬ DcOk W H L k) : dcV W H L k = (0, 0, [], false) := by unfold dcV; rw [dc_false h]; rfl
theorem dcV_len (W H : Int) (L : List Sq) (k : Int) : (dcV W H L k).2.2.1.length ≤ 30 := by
  by_cases h : DcOk W H L k
  · rw [dcV_yes h]; have := h.1.2.1; have := List.length_eraseIdx_le L k.toNat; simp only; omega
  · rw [dcV_no h]; simp
theorem sqs_drop {w : World} {B : Nat} {A : Option Addr} {L : List Sq} (h : SqsAt w B A L) (k : Nat) : SqsAt w B (Option.map (fun x => x.add (k * 3)) A) (L.drop k) := by
  intro i s hs
  rw [List.getElem?_drop] at hs
  obtain ⟨b, off, rfl, hb, c0, c1, c2⟩ := h (k + i) s hs
  have e : off + (k + i) * 3 = off + k * 3 + i * 3 := by omega
  rw [e] at c0 c1 c2
  exact ⟨b, off + k * 3, by simp [Addr.add], hb, c0, c1, c2⟩
theorem sqs_nil {w : World} {B : Nat} {A : Option Addr} {L : List Sq} (h : L = []) : SqsAt w B A L := fun i s hs => by rw [h] at hs; simp at hs
theorem rows_two {W : World} {A1 A2 : Option Addr} {n1 c1 n2 c2 : Nat} {L1 L2 : List Sq} {t : TypeId} (l1 : L1.length = n1) (l2 : L2.length = n2) (h1 : SqsAt W W.heap.size A1 L1) (h2 : SqsAt W W.heap.size A2 L2) (hc1 : n1 ≤ c1) (hc2 : n2 ≤ c2) (e1 : A1 ≠ none) (e2 : A2 ≠ none) :
    RowsC (W.alloc (.cells #[.slice A1 n1 c1, .slice A2 n2 c2] t)) (W.alloc (.cells #[.slice A1 n1 c1, .slice A2 n2 c2] t)).heap.size (some ⟨W.heap.size, 0, none⟩) [L1, L2] := by
  subst l1 l2
  have hb : Below W.heap.size W (W.alloc (.cells #[.slice A1 L1.length c1, .slice A2 L2.length c2] t)) := (Below.refl _ _).alloc (Nat.le_refl _) _
  intro i l hl
  match i, hl with
  | 0, hl =>
    simp at hl; subst hl
    exact ⟨W.heap.size, 0, A1, c1, rfl, by simp, by simp, hc1, (h1.below hb).mono hb.size, fun e => absurd e e1⟩
  | 1, hl =>
    simp at hl; subst hl
    exact ⟨W.heap.size, 0, A2, c2, rfl, by simp, by simp, hc2, (h2.below hb).mono hb.size, fun e => absurd e e2⟩
theorem flat2 {L : List Sq} {k : Nat} : [L.take k, L.drop (k + 1)].flatten = L.eraseIdx k := by rw [List.eraseIdx_eq_take_drop_succ]; simp
set_option maxRecDepth 100000 in
set_option maxHeartbeats 8000000 in
theorem without_any (W H : Int) (ab : Addr) (n c : Nat) (L : List Sq) (k : Nat) (w : World) (hl : L.length = n) (hc : n ≤ c) (hn9 : n ≤ 1000) (hc9 : c ≤ 1048576) (hk : k < n) (hL : SqsAt w w.heap.size (some ab) L) :
    Calls Try.prog 49 #[.agg #[.int .i64 W, .int .i64 H, .slice (some ab) n c], .int .i64 k] w fun e w' => ∃ A' c', e = .returned (.agg #[.int .i64 W, .int .i64 H, .slice A' (n - 1) c']) ∧ w'.ownsRow w.heap.size 25 3 (.slice A' (n - 1) c') (n - 1) (flat (L.eraseIdx k)) ∧ Below w.heap.size w w' := by
  obtain ⟨W1, hW1⟩ : ∃ W1, W1 = (w.alloc (.cells #[.int .i64 W, .int .i64 H, .slice (some ab) n c] 35)).alloc (.cells #[.int .i64 0, .int .i64 0, .slice none 0 0] 35) := ⟨_, rfl⟩
  have Z1 : DZ w W1 W H (some ab) n c := by rw [hW1]; exact DZ.start w W H (some ab) n c
  have hLW : ∀ V, Below w.heap.size w V → SqsAt V V.heap.size (some ab) L := fun V hb => (hL.below hb).mono hb.size
  obtain ⟨pl, p0, p1, p2⟩ := id Z1.P
  have hT1 : (L.take k).length = k := by rw [List.length_take]; omega
  have hT2 : (L.drop (k + 1)).length = n - (k + 1) := by rw [List.length_drop, hl]
  have hE : (L.eraseIdx k).length = n - 1 := by rw [List.length_eraseIdx, if_pos (by omega)]; omega
  have HE := Lib.hid hE
  have HT1 := Lib.hid hT1
  have HT2 := Lib.hid hT2
  have HLW := Lib.hid hLW
  have HS : ∀ w', Below W1.heap.size W1 w' → w'.cell? ⟨w.heap.size, 0, none⟩ = some (.int .i64 W) ∧ w'.cell? ⟨w.heap.size, 1, none⟩ = some (.int .i64 H) ∧ w'.cell? ⟨w.heap.size, 2, none⟩ = some (.slice (some ab) n c) := fun w' hb => ⟨(hb.cell (p := ⟨w.heap.size, 0, none⟩) pl).trans p0, (hb.cell (p := ⟨w.heap.size, 1, none⟩) pl).trans p1, (hb.cell (p := ⟨w.heap.size, 2, none⟩) pl).trans p2⟩
  have q0 : (0 : Int) ≤ (k : Int) := by omega
  have q1 : (k : Int) ≤ (c : Int) := by omega
  have q2 : (k : Int) + 1 ≤ (n : Int) := by omega
  have q3 : (n : Int) ≤ (c : Int) := by omega
  have q4 : (0 : Int) ≤ (k : Int) + 1 := by omega
  have q5 : IntKind.i64.wrap ((k : Int) + 1) = (k : Int) + 1 := IntWalk.i64_in _ (by omega)
  clear hE hT1 hT2 hLW hL hl
  by_cases hcj : c = k + 1
  · subst hcj
    obtain rfl : n = k + 1 := by omega
    have q6 : (k : Int) ≤ (k : Int) + 1 := by omega
    go_enter Try.func49, Try.ntmps49
    go_wp2_with fail
    rw [← hW1]
    clear hW1
    refine wp_region_top 13 (fun w' => w'.cell? ⟨w.heap.size, 0, none⟩ = some (.int .i64 W) ∧ w'.cell? ⟨w.heap.size, 1, none⟩ = some (.int .i64 H) ∧ w'.cell? ⟨w.heap.size, 2, none⟩ = some (.slice (some ab) (k + 1) (k + 1))) (by kernel_rfl) (HS _ ((Below.refl _ _).drew)) (fun hHeld => ?_)
    refine wpTop.take 0 (v := ?_) rfl (by kernel_rfl) (by kernel_rfl) (by kernel_rfl) (by kernel_rfl) (fun _ _ _ h => h) (Or.inl ⟨by rfl, ?_⟩) (by assumption) ?_
    rotate_left
    · intro w hSw; (try dsimp only at hSw); go_simp; try (with_reducible rfl)
    try simp only [Act.put, List.getElem_toArray, List.getElem_cons_zero, List.getElem_cons_succ, List.setIfInBounds_toArray, List.set_cons_zero, List.set_cons_succ]
    refine wpTop.take 1 (v := ?_) rfl (by kernel_rfl) (by kernel_rfl) (by kernel_rfl) (by kernel_rfl) (fun _ _ _ h => h) (Or.inl ⟨by rfl, ?_⟩) (by assumption) ?_
    rotate_left
    · intro w hSw; (try dsimp only at hSw); go_simp; try (with_reducible rfl)
    try simp only [Act.put, List.getElem_toArray, List.getElem_cons_zero, List.getElem_cons_succ, List.setIfInBounds_toArray, List.set_cons_zero, List.set_cons_succ]
    refine wpTop.take 2 (v := ?_) rfl (by kernel_rfl) (by kernel_rfl) (by kernel_rfl) (by kernel_rfl) (fun _ _ _ h => h) (Or.inl ⟨by rfl, ?_⟩) (by assumption) ?_
    rotate_left
    · intro w hSw; (try dsimp only at hSw); go_simp; try (with_reducible rfl)
    try simp only [Act.put, List.getElem_toArray, List.getElem_cons_zero, List.getElem_cons_succ, List.setIfInBounds_toArray, List.set_cons_zero, List.set_cons_succ]
    refine wpTop.take 3 (v := ?_) rfl (by kernel_rfl) (by kernel_rfl) (by kernel_rfl) (by kernel_rfl) (fun _ _ _ h => h) (Or.inl ⟨by rfl, ?_⟩) (by assumption) ?_
    rotate_left
    · intro w hSw; (try dsimp only at hSw); go_simp; try (with_reducible rfl)
    try simp only [Act.put, List.getElem_toArray, List.getElem_cons_zero, List.getElem_cons_succ, List.setIfInBounds_toArray, List.set_cons_zero, List.set_cons_succ]
    refine wpTop.take 4 (v := ?_) rfl (by kernel_rfl) (by kernel_rfl) (by kernel_rfl) (by kernel_rfl) (fun _ _ _ h => h) (Or.inl ⟨by rfl, ?_⟩) (by assumption) ?_
    rotate_left
    · intro w hSw; (try dsimp only at hSw); go_simp; try (with_reducible rfl)
    try simp only [Act.put, List.getElem_toArray, List.getElem_cons_zero, List.getElem_cons_succ, List.setIfInBounds_toArray, List.set_cons_zero, List.set_cons_succ]
    refine wpTop.take 5 (v := ?_) rfl (by kernel_rfl) (by kernel_rfl) (by kernel_rfl) (by kernel_rfl) (fun _ _ _ h => h) (Or.inl ⟨by rfl, ?_⟩) (by assumption) ?_
    rotate_left
    · intro w hSw; (try dsimp only at hSw); go_simp; try (with_reducible rfl)
    try simp only [Act.put, List.getElem_toArray, List.getElem_cons_zero, List.getElem_cons_succ, List.setIfInBounds_toArray, List.set_cons_zero, List.set_cons_succ]
    refine wpTop.take 6 (v := ?_) rfl (by kernel_rfl) (by kernel_rfl) (by kernel_rfl) (by kernel_rfl) (fun _ _ _ h => h) (Or.inl ⟨by rfl, ?_⟩) (by assumption) ?_
    rotate_left
    · intro w hSw; (try dsimp only at hSw); go_simp; try (with_reducible rfl)
    try simp only [Act.put, List.getElem_toArray, List.getElem_cons_zero, List.getElem_cons_succ, List.setIfInBounds_toArray, List.set_cons_zero, List.set_cons_succ]
    refine wpTop.take 7 (v := ?_) rfl (by kernel_rfl) (by kernel_rfl) (by kernel_rfl) (by kernel_rfl) (fun _ _ _ h => h) (Or.inl ⟨by rfl, ?_⟩) (by assumption) ?_
    rotate_left
    · intro w hSw; (try dsimp only at hSw); go_simp; try (with_reducible rfl)
    try simp only [Act.put, List.getElem_toArray, List.getElem_cons_zero, List.getElem_cons_succ, List.setIfInBounds_toArray, List.set_cons_zero, List.set_cons_succ]
    refine wpTop.take 8 (v := ?_) rfl (by kernel_rfl) (by kernel_rfl) (by kernel_rfl) (by kernel_rfl) (fun _ _ _ h => h) (Or.inl ⟨by rfl, ?_⟩) (by assumption) ?_
    rotate_left
    · intro w hSw; (try dsimp only at hSw); go_simp; try (with_reducible rfl)
    try simp only [Act.put, List.getElem_toArray, List.getElem_cons_zero, List.getElem_cons_succ, List.setIfInBounds_toArray, List.set_cons_zero, List.set_cons_succ]
    refine wpTop.take 9 (v := ?_) rfl (by kernel_rfl) (by kernel_rfl) (by kernel_rfl) (by kernel_rfl) (fun _ _ _ h => h) (Or.inl ⟨by rfl, ?_⟩) (by assumption) ?_
    rotate_left
    · intro w hSw; (try dsimp only at hSw); go_simp; try (with_reducible rfl)
    try simp only [Act.put, List.getElem_toArray, List.getElem_cons_zero, List.getElem_cons_succ, List.setIfInBounds_toArray, List.set_cons_zero, List.set_cons_succ]
    have hd : Below W1.heap.size W1 W1.drew := (Below.refl _ _).drew
    refine wpTop.one 10 rfl (by kernel_rfl) (fun K hK => ?_)
    go_simp
    refine hK.out _ _ (fun _ => HS _ (hd.alloc hd.size _)) (fun hH => ?_)
    clear hK K
    have hHeld := hH (by decide)
    clear hH
    try simp only [Act.put, List.getElem_toArray, List.getElem_cons_zero, List.getElem_cons_succ, List.setIfInBounds_toArray, List.set_cons_zero, List.set_cons_succ]
    have hsq := HLW.out _ (Z1.bel.trans (hd.mono Z1.bel.size))
    have hab : ∀ o, Below W1.heap.size W1 (W1.drew.alloc o) := fun o => hd.alloc hd.size o
    refine wpTop.one 11 rfl (by kernel_rfl) (fun K hK => ?_)
    go_simp
    refine (concatC_any _ 2 2 [L.take k, L.drop (k + 1)] _ rfl (by omega) (by rw [flat2, HE.out]; omega) (rows_two (W := W1.drew) HT1.out (by rw [HT2.out]; omega) (hsq.take k) (sqs_nil (List.drop_eq_nil_of_le (by have := HT2.out; rw [List.length_drop] at this; omega))) (by omega) (Nat.le_refl _) (by simp) (by simp))).mono ?_
    rintro e w4 hret
    unfold RetQc at hret
    rw [flat2, HE.out] at hret
    obtain ⟨A4, c4, rfl, o4, hb4⟩ := hret
    have hbw4 : Below W1.heap.size W1 w4 := (hab _).trans (hb4.mono (hab _).size)
    refine hK.out _ _ (fun _ => HS _ hbw4) (fun hH => ?_)
    clear hK K
    have hHeld := hH (by decide)
    clear hH
    try simp only [Act.put, List.getElem_toArray, List.getElem_cons_zero, List.getElem_cons_succ, List.setIfInBounds_toArray, List.set_cons_zero, List.set_cons_succ]
    refine wpTop.one 12 rfl (by kernel_rfl) (fun K hK => ?_)
    go_simp
    (with_reducible refine (withClues_any _ _ _ _ _ _ _ _ _).mono ?_)
    rintro e w5 ⟨rfl, hb5⟩
    have hb6 := hbw4.trans (hb5.mono hbw4.size)
    refine hK.out _ _ (fun _ => HS _ hb6) (fun hH => ?_)
    clear hK K
    have hHeld := hH (by decide)
    clear hH
    try simp only [Act.put, List.getElem_toArray, List.getElem_cons_zero, List.getElem_cons_succ, List.setIfInBounds_toArray, List.set_cons_zero, List.set_cons_succ]
    have own5 := own_keep o4 hb5
    have Z5 := Z1.keep hb6
    obtain ⟨rl, r0, r1, r2⟩ := id Z5.R
    have f0 := Z5.fz 0
    have f1 := Z5.fz 1
    have f2 := Z5.fz 2
    have hbf := Z5.bel
    have h2w : w.heap.size + 1 < W1.heap.size := Z1.R.lt
    refine wpTop.one 13 rfl (by kernel_rfl) (fun K hK => ?_)
    go_simp
    refine hK.out _ _ (fun h => absurd h (by decide)) (fun hH => ?_)
    clear hK K
    clear hH
    try simp only [Act.put, List.getElem_toArray, List.getElem_cons_zero, List.getElem_cons_succ, List.setIfInBounds_toArray, List.set_cons_zero, List.set_cons_succ]
    refine wpTop.all (by kernel_rfl) ?_ _
    go_wp2_with fail
    refine bodyPost_ret (v := .agg #[.int .i64 W, .int .i64 H, .slice A4 (k + 1 - 1) c4]) (by simp [results, Try.results49, go_sem, r0, r1, r2]) rfl ?_
    have hne : w.heap.size + 1 < W1.heap.size := h2w
    have o5 := own_base own5 (show W1.heap.size ≤ _ from (hab _).size)
    exact ⟨A4, c4, rfl, own_base (ownsRow_setCell_below (ownsRow_setCell_below (ownsRow_setCell_below o5 (a := ⟨w.heap.size + 1, 0, none⟩) hne (.int .i64 W)) (a := ⟨w.heap.size + 1, 1, none⟩) hne (.int .i64 H)) (a := ⟨w.heap.size + 1, 2, none⟩) hne (.slice A4 (k + 1 - 1) c4)) (by omega), ((hbf.setCell (p := ⟨w.heap.size + 1, 0, none⟩) (by simp) _).setCell (p := ⟨w.heap.size + 1, 1, none⟩) (by simp) _).setCell (p := ⟨w.heap.size + 1, 2, none⟩) (by simp) _⟩
  · go_enter Try.func49, Try.ntmps49
    go_wp2_with fail
    rw [← hW1]
    clear hW1
    refine wp_region_top 13 (fun w' => w'.cell? ⟨w.heap.size, 0, none⟩ = some (.int .i64 W) ∧ w'.cell? ⟨w.heap.size, 1, none⟩ = some (.int .i64 H) ∧ w'.cell? ⟨w.heap.size, 2, none⟩ = some (.slice (some ab) n c)) (by kernel_rfl) (HS _ ((Below.refl _ _).drew)) (fun hHeld => ?_)
    refine wpTop.take 0 (v := ?_) rfl (by kernel_rfl) (by kernel_rfl) (by kernel_rfl) (by kernel_rfl) (fun _ _ _ h => h) (Or.inl ⟨by rfl, ?_⟩) (by assumption) ?_
    rotate_left
    · intro w hSw; (try dsimp only at hSw); go_simp; try (with_reducible rfl)
    try simp only [Act.put, List.getElem_toArray, List.getElem_cons_zero, List.getElem_cons_succ, List.setIfInBounds_toArray, List.set_cons_zero, List.set_cons_succ]
    refine wpTop.take 1 (v := ?_) rfl (by kernel_rfl) (by kernel_rfl) (by kernel_rfl) (by kernel_rfl) (fun _ _ _ h => h) (Or.inl ⟨by rfl, ?_⟩) (by assumption) ?_
    rotate_left
    · intro w hSw; (try dsimp only at hSw); go_simp; try (with_reducible rfl)
    try simp only [Act.put, List.getElem_toArray, List.getElem_cons_zero, List.getElem_cons_succ, List.setIfInBounds_toArray, List.set_cons_zero, List.set_cons_succ]
    refine wpTop.take 2 (v := ?_) rfl (by kernel_rfl) (by kernel_rfl) (by kernel_rfl) (by kernel_rfl) (fun _ _ _ h => h) (Or.inl ⟨by rfl, ?_⟩) (by assumption) ?_
    rotate_left
    · intro w hSw; (try dsimp only at hSw); go_simp; try (with_reducible rfl)
    try simp only [Act.put, List.getElem_toArray, List.getElem_cons_zero, List.getElem_cons_succ, List.setIfInBounds_toArray, List.set_cons_zero, List.set_cons_succ]
    refine wpTop.take 3 (v := ?_) rfl (by kernel_rfl) (by kernel_rfl) (by kernel_rfl) (by kernel_rfl) (fun _ _ _ h => h) (Or.inl ⟨by rfl, ?_⟩) (by assumption) ?_
    rotate_left
    · intro w hSw; (try dsimp only at hSw); go_simp; try (with_reducible rfl)
    try simp only [Act.put, List.getElem_toArray, List.getElem_cons_zero, List.getElem_cons_succ, List.setIfInBounds_toArray, List.set_cons_zero, List.set_cons_succ]
    refine wpTop.take 4 (v := ?_) rfl (by kernel_rfl) (by kernel_rfl) (by kernel_rfl) (by kernel_rfl) (fun _ _ _ h => h) (Or.inl ⟨by rfl, ?_⟩) (by assumption) ?_
    rotate_left
    · intro w hSw; (try dsimp only at hSw); go_simp; try (with_reducible rfl)
    try simp only [Act.put, List.getElem_toArray, List.getElem_cons_zero, List.getElem_cons_succ, List.setIfInBounds_toArray, List.set_cons_zero, List.set_cons_succ]
    refine wpTop.take 5 (v := ?_) rfl (by kernel_rfl) (by kernel_rfl) (by kernel_rfl) (by kernel_rfl) (fun _ _ _ h => h) (Or.inl ⟨by rfl, ?_⟩) (by assumption) ?_
    rotate_left
    · intro w hSw; (try dsimp only at hSw); go_simp; try (with_reducible rfl)
    try simp only [Act.put, List.getElem_toArray, List.getElem_cons_zero, List.getElem_cons_succ, List.setIfInBounds_toArray, List.set_cons_zero, List.set_cons_succ]
    refine wpTop.take 6 (v := ?_) rfl (by kernel_rfl) (by kernel_rfl) (by kernel_rfl) (by kernel_rfl) (fun _ _ _ h => h) (Or.inl ⟨by rfl, ?_⟩) (by assumption) ?_
    rotate_left
    · intro w hSw; (try dsimp only at hSw); go_simp; try (with_reducible rfl)
    try simp only [Act.put, List.getElem_toArray, List.getElem_cons_zero, List.getElem_cons_succ, List.setIfInBounds_toArray, List.set_cons_zero, List.set_cons_succ]
    refine wpTop.take 7 (v := ?_) rfl (by kernel_rfl) (by kernel_rfl) (by kernel_rfl) (by kernel_rfl) (fun _ _ _ h => h) (Or.inl ⟨by rfl, ?_⟩) (by assumption) ?_
    rotate_left
    · intro w hSw; (try dsimp only at hSw); go_simp; try (with_reducible rfl)
    try simp only [Act.put, List.getElem_toArray, List.getElem_cons_zero, List.getElem_cons_succ, List.setIfInBounds_toArray, List.set_cons_zero, List.set_cons_succ]
    refine wpTop.take 8 (v := ?_) rfl (by kernel_rfl) (by kernel_rfl) (by kernel_rfl) (by kernel_rfl) (fun _ _ _ h => h) (Or.inl ⟨by rfl, ?_⟩) (by assumption) ?_
    rotate_left
    · intro w hSw; (try dsimp only at hSw); go_simp; try (with_reducible rfl)
    try simp only [Act.put, List.getElem_toArray, List.getElem_cons_zero, List.getElem_cons_succ, List.setIfInBounds_toArray, List.set_cons_zero, List.set_cons_succ]
    refine wpTop.take 9 (v := ?_) rfl (by kernel_rfl) (by kernel_rfl) (by kernel_rfl) (by kernel_rfl) (fun _ _ _ h => h) (Or.inl ⟨by rfl, ?_⟩) (by assumption) ?_
    rotate_left
    · intro w hSw; (try dsimp only at hSw); go_simp; try (with_reducible rfl)
    try simp only [Act.put, List.getElem_toArray, List.getElem_cons_zero, List.getElem_cons_succ, List.setIfInBounds_toArray, List.set_cons_zero, List.set_cons_succ]
    have hd : Below W1.heap.size W1 W1.drew := (Below.refl _ _).drew
    refine wpTop.one 10 rfl (by kernel_rfl) (fun K hK => ?_)
    go_simp
    refine hK.out _ _ (fun _ => HS _ (hd.alloc hd.size _)) (fun hH => ?_)
    clear hK K
    have hHeld := hH (by decide)
    clear hH
    try simp only [Act.put, List.getElem_toArray, List.getElem_cons_zero, List.getElem_cons_succ, List.setIfInBounds_toArray, List.set_cons_zero, List.set_cons_succ]
    have hsq := HLW.out _ (Z1.bel.trans (hd.mono Z1.bel.size))
    have hab : ∀ o, Below W1.heap.size W1 (W1.drew.alloc o) := fun o => hd.alloc hd.size o
    refine wpTop.one 11 rfl (by kernel_rfl) (fun K hK => ?_)
    go_simp
    refine (concatC_any _ 2 2 [L.take k, L.drop (k + 1)] _ rfl (by omega) (by rw [flat2, HE.out]; omega) (rows_two (W := W1.drew) HT1.out HT2.out (hsq.take k) (sqs_drop hsq (k + 1)) (by omega) (by omega) (by simp) (by simp))).mono ?_
    rintro e w4 hret
    unfold RetQc at hret
    rw [flat2, HE.out] at hret
    obtain ⟨A4, c4, rfl, o4, hb4⟩ := hret
    have hbw4 : Below W1.heap.size W1 w4 := (hab _).trans (hb4.mono (hab _).size)
    refine hK.out _ _ (fun _ => HS _ hbw4) (fun hH => ?_)
    clear hK K
    have hHeld := hH (by decide)
    clear hH
    try simp only [Act.put, List.getElem_toArray, List.getElem_cons_zero, List.getElem_cons_succ, List.setIfInBounds_toArray, List.set_cons_zero, List.set_cons_succ]
    refine wpTop.one 12 rfl (by kernel_rfl) (fun K hK => ?_)
    go_simp
    (with_reducible refine (withClues_any _ _ _ _ _ _ _ _ _).mono ?_)
    rintro e w5 ⟨rfl, hb5⟩
    have hb6 := hbw4.trans (hb5.mono hbw4.size)
    refine hK.out _ _ (fun _ => HS _ hb6) (fun hH => ?_)
    clear hK K
    have hHeld := hH (by decide)
    clear hH
    try simp only [Act.put, List.getElem_toArray, List.getElem_cons_zero, List.getElem_cons_succ, List.setIfInBounds_toArray, List.set_cons_zero, List.set_cons_succ]
    have own5 := own_keep o4 hb5
    have Z5 := Z1.keep hb6
    obtain ⟨rl, r0, r1, r2⟩ := id Z5.R
    have f0 := Z5.fz 0
    have f1 := Z5.fz 1
    have f2 := Z5.fz 2
    have hbf := Z5.bel
    have h2w : w.heap.size + 1 < W1.heap.size := Z1.R.lt
    refine wpTop.one 13 rfl (by kernel_rfl) (fun K hK => ?_)
    go_simp
    refine hK.out _ _ (fun h => absurd h (by decide)) (fun hH => ?_)
    clear hK K
    clear hH
    try simp only [Act.put, List.getElem_toArray, List.getElem_cons_zero, List.getElem_cons_succ, List.setIfInBounds_toArray, List.set_cons_zero, List.set_cons_succ]
    refine wpTop.all (by kernel_rfl) ?_ _
    go_wp2_with fail
    refine bodyPost_ret (v := .agg #[.int .i64 W, .int .i64 H, .slice A4 (n - 1) c4]) (by simp [results, Try.results49, go_sem, r0, r1, r2]) rfl ?_
    have hne : w.heap.size + 1 < W1.heap.size := h2w
    have o5 := own_base own5 (show W1.heap.size ≤ _ from (hab _).size)
    exact ⟨A4, c4, rfl, own_base (ownsRow_setCell_below (ownsRow_setCell_below (ownsRow_setCell_below o5 (a := ⟨w.heap.size + 1, 0, none⟩) hne (.int .i64 W)) (a := ⟨w.heap.size + 1, 1, none⟩) hne (.int .i64 H)) (a := ⟨w.heap.size + 1, 2, none⟩) hne (.slice A4 (n - 1) c4)) (by omega), ((hbf.setCell (p := ⟨w.heap.size + 1, 0, none⟩) (by simp) _).setCell (p := ⟨w.heap.size + 1, 1, none⟩) (by simp) _).setCell (p := ⟨w.heap.size + 1, 2, none⟩) (by simp) _⟩
end Go.Proofs.Ytpbghalljfcaoaa
