/- A hidden cut, and whether it fits a clue: the program. -/
import Derived.Test.YtpbghalljfcaoaaPzH
import Derived.Laws.StructEq
set_option linter.all false
namespace Go.Proofs.Ytpbghalljfcaoaa
open Go.RowKit Go.Shelf

theorem isHidden_any (W H : Int) (A : Option Addr) (n c : Nat) (L : List Sq) (w : World) (hl : L.length = n) (hc : n ≤ c) (hL : SqsAt w w.heap.size A L) (hwf : ∀ s ∈ L, wfS s) :
    Calls Try.prog 43 #[.agg #[.int .i64 W, .int .i64 H, .slice A n c]] w (RetB w (Good W H L ∧ okP W H = true)) := by
  subst hl
  have B0 : Below w.heap.size w (w.alloc (.cells #[.int .i64 W, .int .i64 H, .slice A L.length c] 47)) := (Below.refl _ _).alloc (Nat.le_refl _) _
  have K0 := Cv3.start w (.int .i64 W) (.int .i64 H) (.slice A L.length c) 47
  have C := isCut_good W H A L.length c L _ rfl hc ((hL.below B0).mono B0.size) hwf
  by_cases hG : Good W H L
  · have C1 := Lib.hid (callB_yes C hG)
    have C2 := fun w' => hidSize_any W H w'
    obtain ⟨kl, k0, k1, k2⟩ := id K0
    clear C hL
    go_enter Try.func43, Try.ntmps43
    go_wp2_with fail
    clear kl k0 k1 k2
    (with_reducible refine C1.out.mono ?_)
    rintro e w1 ⟨rfl, hb⟩
    replace K0 := K0.next hb
    replace B0 := B0.trans (hb.mono B0.size)
    clear hb
    obtain ⟨kl, k0, k1, k2⟩ := id K0
    go_wp2_with fail
    refine (C2 _).mono ?_
    rintro e w' ⟨rfl, rfl⟩
    go_wp2_with fail
    go_ret
    exact RetB.mk (by simp [hG]) B0
  · have C1 := Lib.hid (callB_no C hG)
    obtain ⟨kl, k0, k1, k2⟩ := id K0
    clear C hL
    go_enter Try.func43, Try.ntmps43
    go_wp2_with fail
    clear kl k0 k1 k2
    (with_reducible refine C1.out.mono ?_)
    rintro e w1 ⟨rfl, hb⟩
    go_wp2_with fail
    go_ret
    exact RetB.mk ⟨fun h => (by cases h), fun h => absurd h.1 hG⟩ (B0.trans (hb.mono B0.size))
theorem pzHidden_any (W H : Int) (A : Option Addr) (n c : Nat) (L : List Sq) (w : World) (hl : L.length = n) (hc : n ≤ c) (hL : SqsAt w w.heap.size A L) :
    Calls Try.prog 40 #[.agg #[.int .i64 W, .int .i64 H, .slice A n c]] w (RetB w (Good W H L ∧ okP W H = true)) := by
  subst hl
  have B0 : Below w.heap.size w (w.alloc (.cells #[.int .i64 W, .int .i64 H, .slice A L.length c] 47)) := (Below.refl _ _).alloc (Nat.le_refl _) _
  have K0 := Cv3.start w (.int .i64 W) (.int .i64 H) (.slice A L.length c) 47
  have C := cuGood_any W H A L.length c L _ rfl hc ((hL.below B0).mono B0.size)
  by_cases hG : Good W H L
  · have C1 := Lib.hid (callB_yes C hG)
    have C2 := fun w' => pzSize_any W H w'
    obtain ⟨kl, k0, k1, k2⟩ := id K0
    clear C hL
    go_enter Try.func40, Try.ntmps40
    go_wp2_with fail
    clear kl k0 k1 k2
    (with_reducible refine C1.out.mono ?_)
    rintro e w1 ⟨rfl, hb⟩
    replace K0 := K0.next hb
    replace B0 := B0.trans (hb.mono B0.size)
    clear hb
    obtain ⟨kl, k0, k1, k2⟩ := id K0
    go_wp2_with fail
    refine (C2 _).mono ?_
    rintro e w' ⟨rfl, rfl⟩
    go_wp2_with fail
    go_ret
    exact RetB.mk (by simp [hG]) B0
  · have C1 := Lib.hid (callB_no C hG)
    obtain ⟨kl, k0, k1, k2⟩ := id K0
    clear C hL
    go_enter Try.func40, Try.ntmps40
    go_wp2_with fail
    clear kl k0 k1 k2
    (with_reducible refine C1.out.mono ?_)
    rintro e w1 ⟨rfl, hb⟩
    go_wp2_with fail
    go_ret
    exact RetB.mk ⟨fun h => (by cases h), fun h => absurd h.1 hG⟩ (B0.trans (hb.mono B0.size))
theorem eqClueV (a b c a' b' c' : Int) (w : World) : (Op.equalIn 10000 25 (.agg #[.int .i64 a, .int .i64 b, .int .i64 c]) (.agg #[.int .i64 a', .int .i64 b', .int .i64 c'])).run Try.prog w = .ok (a == a' && b == b' && c == c') w := by
  have u3 := Try.underlying3
  have a3 : ∀ w, (isAgg 3).run Try.prog w = .ok false w := fun _ => by kernel_rfl
  have z3 : ∀ w, (Go.sizeOf 3).run Try.prog w = .ok 1 w := fun _ => by kernel_rfl
  have hS : Try.prog.underlying 25 = some (.struct (Try.prog.fieldsOf 25)) := by kernel_rfl
  have hp : Try.prog.stoodInHeld 25 = false := by kernel_rfl
  rw [show (10000 : Nat) = 9999 + 1 from rfl, run_equalIn_agg w 9999 25 _ _ hS hp]
  simp only [Program.fieldsOf, Try.underlying25]
  go_simp
  by_cases h1 : a = a' <;> by_cases h2 : b = b' <;> by_cases h3 : c = c' <;> simp [h1, h2, h3]

/-- A hidden cut and a clue of it. -/
def DoF (W H : Int) (L : List Sq) (s : Sq) : Prop := (Good W H L ∧ okP W H = true) ∧ ClueOk (W * H) s
noncomputable def fitV (W H : Int) (L : List Sq) (s : Sq) : Bool := dc (DoF W H L s) && fitN W H L s
def RetFit (w : World) (W H : Int) (L : List Sq) (s : Sq) (e : Ending) (w' : World) : Prop := e = .returned (.tuple #[.bool (fitV W H L s), .bool (dc (DoF W H L s))]) ∧ Below w.heap.size w w'
theorem RetFit.no {w w' : World} {W H : Int} {L : List Sq} {s : Sq} (h : ¬ DoF W H L s) (hb : Below w.heap.size w w') : RetFit w W H L s (.returned (.tuple #[.bool false, .bool false])) w' := by
  unfold RetFit fitV; rw [dc_false h]; exact ⟨rfl, hb⟩
theorem RetFit.yes {w w' : World} {W H : Int} {L : List Sq} {s : Sq} {b : Bool} (h : DoF W H L s) (hb : Below w.heap.size w w') (hf : b = fitN W H L s) : RetFit w W H L s (.returned (.tuple #[.bool b, .bool true])) w' := by
  unfold RetFit fitV; rw [dc_true h, hf]; exact ⟨rfl, hb⟩
set_option maxRecDepth 100000 in
set_option maxHeartbeats 4000000 in
theorem implFit_any (s : Sq) (W H : Int) (A : Option Addr) (n c : Nat) (L : List Sq) (w : World) (hl : L.length = n) (hc : n ≤ c) (hL : SqsAt w w.heap.size A L) (hwf : ∀ s ∈ L, wfS s) :
    Calls Try.prog 20 #[.agg #[.int .i64 s.x, .int .i64 s.y, .int .i64 s.d], .agg #[.int .i64 W, .int .i64 H, .slice A n c]] w (RetFit w W H L s) := by
  subst hl
  have B0 : Below w.heap.size w ((w.alloc (.cells #[.int .i64 s.x, .int .i64 s.y, .int .i64 s.d] 25)).alloc (.cells #[.int .i64 W, .int .i64 H, .slice A L.length c] 47)) := ((Below.refl _ _).alloc (Nat.le_refl _) _).alloc (by simp) _
  have K0 := (Cv3.start w (.int .i64 s.x) (.int .i64 s.y) (.int .i64 s.d) 25).next ((Below.refl _ _).alloc (Nat.le_refl _) (.cells #[.int .i64 W, .int .i64 H, .slice A L.length c] 47))
  have J0 := Cv3.start (w.alloc (.cells #[.int .i64 s.x, .int .i64 s.y, .int .i64 s.d] 25)) (.int .i64 W) (.int .i64 H) (.slice A L.length c) 47
  rw [World.size_alloc] at J0
  by_cases hH : Good W H L ∧ okP W H = true
  · have hC := fun w' => implIsClue_any W H s w'
    by_cases hK : ClueOk (W * H) s
    · have hD : DoF W H L s := ⟨hH, hK⟩
      go_enter Try.func20, Try.ntmps20
      go_wp2_with fail
      obtain ⟨W0, hW0⟩ : ∃ W0, W0 = (w.alloc (.cells #[.int .i64 s.x, .int .i64 s.y, .int .i64 s.d] 25)).alloc (.cells #[.int .i64 W, .int .i64 H, .slice A L.length c] 47) := ⟨_, rfl⟩
      rw [← hW0] at B0 K0 J0 ⊢
      clear hW0
      refine (callB_yes (isHidden_any W H A L.length c L _ rfl hc ((hL.below B0).mono B0.size) hwf) hH).mono ?_
      rintro e w1 ⟨rfl, hb⟩
      replace K0 := K0.next hb
      replace J0 := J0.next hb
      replace B0 := B0.trans (hb.mono B0.size)
      clear hb
      obtain ⟨kl, k0, k1, k2⟩ := id K0
      obtain ⟨jl, j0, j1, j2⟩ := id J0
      go_wp2_with fail
      clear kl k0 k1 k2 jl j0 j1 j2
      refine (callB_yes (hC _) ⟨hH.2, hK⟩).mono ?_
      rintro e w2 ⟨rfl, hb⟩
      replace K0 := K0.next hb
      replace J0 := J0.next hb
      replace B0 := B0.trans (hb.mono B0.size)
      clear hb
      obtain ⟨kl, k0, k1, k2⟩ := id K0
      obtain ⟨jl, j0, j1, j2⟩ := id J0
      go_wp2_with fail
      clear kl k0 k1 k2 jl j0 j1 j2
      have hB : ∀ u : Later w2.heap.size w2, Below w.heap.size w u.val := fun u => B0.trans (u.ok.mono B0.size)
      have C := fun (u : Later w2.heap.size w2) => asCut_any s W H A L.length c L u.val rfl hc ((hL.below (hB u)).mono (hB u).size) hwf hH.1 hK.ask
      have F0 : ∀ u : Later w2.heap.size w2, u.val.cell? ⟨w.heap.size, 0, none⟩ = some (.int .i64 s.x) := fun u => (u.ok.cell (p := ⟨_, _, none⟩) K0.lt).trans K0.c0
      have F1 : ∀ u : Later w2.heap.size w2, u.val.cell? ⟨w.heap.size, 1, none⟩ = some (.int .i64 s.y) := fun u => (u.ok.cell (p := ⟨_, _, none⟩) K0.lt).trans K0.c1
      have F2 : ∀ u : Later w2.heap.size w2, u.val.cell? ⟨w.heap.size, 2, none⟩ = some (.int .i64 s.d) := fun u => (u.ok.cell (p := ⟨_, _, none⟩) K0.lt).trans K0.c2
      have G0 : ∀ u : Later w2.heap.size w2, u.val.cell? ⟨w.heap.size + 1, 0, none⟩ = some (.int .i64 W) := fun u => (u.ok.cell (p := ⟨_, _, none⟩) J0.lt).trans J0.c0
      have G1 : ∀ u : Later w2.heap.size w2, u.val.cell? ⟨w.heap.size + 1, 1, none⟩ = some (.int .i64 H) := fun u => (u.ok.cell (p := ⟨_, _, none⟩) J0.lt).trans J0.c1
      have G2 : ∀ u : Later w2.heap.size w2, u.val.cell? ⟨w.heap.size + 1, 2, none⟩ = some (.slice A L.length c) := fun u => (u.ok.cell (p := ⟨_, _, none⟩) J0.lt).trans J0.c2
      have heq := eqClueV
      refine wp_region_sub w2.heap.size (by kernel_rfl) (by kernel_rfl) ?_
      repeat (first | go_big_quiet_step ((go_at_call 44; exact sub_of _ (Nat.le_refl _) (C _))) | quiet_step ((go_at_call 44; exact sub_of _ (Nat.le_refl _) (C _))))
      refine wpQuiet_nil ?_
      rintro w3 ⟨uu, hu⟩
      have hb2 : Below w2.heap.size w2 w3 := by rw [hu]; exact uu.ok
      clear hu uu F0 F1 F2 G0 G1 G2 C
      go_wp2_with fail
      go_ret2
      exact RetFit.yes hD (B0.trans (hb2.mono B0.size)) (hasIt_fit W H L s).symm
    · have hD : ¬ DoF W H L s := fun h => hK h.2
      go_enter Try.func20, Try.ntmps20
      go_wp2_with fail
      obtain ⟨W0, hW0⟩ : ∃ W0, W0 = (w.alloc (.cells #[.int .i64 s.x, .int .i64 s.y, .int .i64 s.d] 25)).alloc (.cells #[.int .i64 W, .int .i64 H, .slice A L.length c] 47) := ⟨_, rfl⟩
      rw [← hW0] at B0 K0 J0 ⊢
      clear hW0
      refine (callB_yes (isHidden_any W H A L.length c L _ rfl hc ((hL.below B0).mono B0.size) hwf) hH).mono ?_
      rintro e w1 ⟨rfl, hb⟩
      replace K0 := K0.next hb
      replace J0 := J0.next hb
      replace B0 := B0.trans (hb.mono B0.size)
      clear hb
      obtain ⟨kl, k0, k1, k2⟩ := id K0
      obtain ⟨jl, j0, j1, j2⟩ := id J0
      go_wp2_with fail
      clear kl k0 k1 k2 jl j0 j1 j2
      refine (callB_no (hC _) (fun h => hK h.2)).mono ?_
      rintro e w2 ⟨rfl, hb⟩
      go_wp2_with fail
      go_ret2
      exact RetFit.no hD (B0.trans (hb.mono B0.size))
  · have hD : ¬ DoF W H L s := fun h => hH h.1
    go_enter Try.func20, Try.ntmps20
    go_wp2_with fail
    obtain ⟨W0, hW0⟩ : ∃ W0, W0 = (w.alloc (.cells #[.int .i64 s.x, .int .i64 s.y, .int .i64 s.d] 25)).alloc (.cells #[.int .i64 W, .int .i64 H, .slice A L.length c] 47) := ⟨_, rfl⟩
    rw [← hW0] at B0 K0 J0 ⊢
    clear hW0
    refine (callB_no (isHidden_any W H A L.length c L _ rfl hc ((hL.below B0).mono B0.size) hwf) hH).mono ?_
    rintro e w1 ⟨rfl, hb⟩
    go_wp2_with fail
    go_ret2
    exact RetFit.no hD (B0.trans (hb.mono B0.size))
end Go.Proofs.Ytpbghalljfcaoaa
