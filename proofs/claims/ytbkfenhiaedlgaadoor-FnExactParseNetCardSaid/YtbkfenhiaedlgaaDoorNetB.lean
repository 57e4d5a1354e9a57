/- The memory of wires and nets; conversions, comparing and marks of them. -/
import Derived.Test.YtbkfenhiaedlgaaDoorNetG
import Derived.Test.YtbkfenhiaedlgaaDoorGen
set_option linter.all false
namespace Go.Proofs.YtbkfenhiaedlgaaDoor
open Go.RowKit

def wfW (s : Wi) : Prop := wfI s.a ∧ wfI s.b
def flatW : List Wi → List Value
  | [] => []
  | s :: r => .int .i64 s.a :: .int .i64 s.b :: flatW r
theorem flatW_len (L : List Wi) : (flatW L).length = L.length * 2 := by
  induction L with
  | nil => rfl
  | cons s r ih => simp [flatW, ih]; omega
theorem flatW_app (L M : List Wi) : flatW (L ++ M) = flatW L ++ flatW M := by
  induction L with
  | nil => rfl
  | cons s r ih => simp [flatW, ih]
theorem flatW_get (L : List Wi) (i : Nat) (s : Wi) (h : L[i]? = some s) : (flatW L)[i * 2]? = some (.int .i64 s.a) ∧ (flatW L)[i * 2 + 1]? = some (.int .i64 s.b) := by
  induction L generalizing i with
  | nil => simp at h
  | cons t r ih =>
    cases i with
    | zero => simp at h; subst h; exact ⟨rfl, rfl⟩
    | succ i =>
      have h' : r[i]? = some s := by simpa using h
      have e : (i + 1) * 2 = i * 2 + 2 := by omega
      have := ih i h'
      rw [e]
      simpa [flatW] using this
theorem flatW_take_succ (L : List Wi) (k : Nat) (s : Wi) (h : L[k]? = some s) : flatW (L.take (k + 1)) = flatW (L.take k) ++ [.int .i64 s.a, .int .i64 s.b] := by
  rw [List.take_add_one, h, flatW_app]
  rfl
theorem take_set2 (xs : List Value) (k : Nat) (a b : Value) (h : k * 2 + 2 ≤ xs.length) : ((xs.set (k * 2) a).set (k * 2 + 1) b).take ((k + 1) * 2) = xs.take (k * 2) ++ [a, b] := by
  apply List.ext_getElem?
  intro i
  have hm : min (k * 2) xs.length = k * 2 := by omega
  rw [List.getElem?_take, List.getElem?_append, List.length_take, hm]
  rcases Nat.lt_or_ge i (k * 2) with h1 | h1
  · have h1' : i < (k + 1) * 2 := by omega
    rw [if_pos h1', if_pos h1, List.getElem?_set_ne (by omega), List.getElem?_set_ne (by omega), List.getElem?_take, if_pos h1]
  · have h1' : ¬ i < k * 2 := by omega
    rw [if_neg h1']
    rcases Nat.lt_or_ge i (k * 2 + 2) with h2 | h2
    · have h2' : i < (k + 1) * 2 := by omega
      rw [if_pos h2']
      rcases (by omega : i = k * 2 ∨ i = k * 2 + 1) with rfl | rfl
      · rw [List.getElem?_set_ne (by omega), List.getElem?_set_self (by omega)]; simp
      · rw [List.getElem?_set_self (by simp; omega)]
        have : k * 2 + 1 - k * 2 = 1 := by omega
        rw [this]; rfl
    · have h2' : ¬ i < (k + 1) * 2 := by omega
      rw [if_neg h2', List.getElem?_eq_none (by simp; omega)]

/-- Wire i of a slice at address A lies below block B with its two cells. -/
def WisAt (w : World) (B : Nat) (A : Option Addr) (L : List Wi) : Prop :=
  ∀ i s, L[i]? = some s → ∃ b off, A = some ⟨b, off, none⟩ ∧ b < B ∧ w.cell? ⟨b, off + i * 2, none⟩ = some (.int .i64 s.a) ∧ w.cell? ⟨b, off + i * 2 + 1, none⟩ = some (.int .i64 s.b)
theorem WisAt.below {w w' : World} {B : Nat} {A : Option Addr} {L : List Wi} (h : WisAt w B A L) (hb : Below B w w') : WisAt w' B A L := by
  intro i s hs
  obtain ⟨b, off, e, hB, c0, c1⟩ := h i s hs
  exact ⟨b, off, e, hB, (hb.cell (p := ⟨b, _, none⟩) hB).trans c0, (hb.cell (p := ⟨b, _, none⟩) hB).trans c1⟩
theorem WisAt.mono {w : World} {B B' : Nat} {A : Option Addr} {L : List Wi} (h : WisAt w B A L) (hB : B ≤ B') : WisAt w B' A L := by
  intro i s hs
  obtain ⟨b, off, e, hb, r⟩ := h i s hs
  exact ⟨b, off, e, by omega, r⟩
theorem wis_of_own {w : World} {base : Nat} {A : Option Addr} {n c : Nat} {L : List Wi} (h : w.ownsRow base 110 2 (.slice A n c) n (flatW L)) : WisAt w w.heap.size A L := by
  intro i s hs
  have hl : n = L.length := by have := h.1; rw [flatW_len] at this; omega
  have hi : i < L.length := (List.getElem?_eq_some_iff.1 hs).1
  rcases h.2 with ⟨hn, hn0⟩ | ⟨g, cap, cur, he, _⟩
  · omega
  · cases he
    have f := flatW_get L i s hs
    refine ⟨g, 0, rfl, (own_lt h).2, ?_⟩
    simp only [Nat.zero_add]
    exact ⟨(h.cellAt (i * 2) (by omega)).trans f.1, (h.cellAt (i * 2 + 1) (by omega)).trans f.2⟩
def upW (k : Int) (n : Nat) : List Wi := (List.range n).map fun (i : Nat) => ⟨k + 2 * (i : Int), k + 2 * (i : Int) + 1⟩
theorem upW_len (k : Int) (n : Nat) : (upW k n).length = n := by simp [upW]
theorem upW_get (k : Int) (n i : Nat) (h : i < n) : (upW k n)[i]? = some ⟨k + 2 * i, k + 2 * i + 1⟩ := by simp [upW, h]
theorem upW_succ (k : Int) (n : Nat) : upW k (n + 1) = upW k n ++ [⟨k + 2 * n, k + 2 * n + 1⟩] := by simp [upW, List.range_succ]
theorem eqWire_same (x y : Int) (w : World) :
    Calls Tryd.prog 130 #[.agg #[.int .i64 x, .int .i64 y], .agg #[.int .i64 x, .int .i64 y]] w fun e w' =>
      e = .returned (.bool true) ∧ Below w.heap.size w w' := by
  go_enter Tryd.func130, Tryd.ntmps130
  go_wp2
  go_ret
  exact ⟨rfl, ((Below.refl _ _).alloc (Nat.le_refl _) _).alloc (by simp) _⟩
theorem toWire_any (x y : Int) (w : World) :
    Calls Tryd.prog 126 #[.agg #[.int .i64 x, .int .i64 y]] w fun e w' =>
      e = .returned (.agg #[.int .i64 x, .int .i64 y]) ∧ Below w.heap.size w w' := by
  go_enter Tryd.func126, Tryd.ntmps126
  go_wp2
  refine bodyPost_ret (v := .agg #[.int .i64 x, .int .i64 y]) (by simp [results, Tryd.results126, go_sem]) rfl ⟨rfl, ?_⟩
  exact (((Below.refl _ _).alloc (Nat.le_refl _) _).alloc (by simp) _).alloc (by simp; omega) _
theorem infoWi : (Tryd.prog.info? 110).map (fun i => (i.zero, i.size, i.bytes)) = some (some (.agg #[.int .i64 0, .int .i64 0]), 2, 16) := by kernel_rfl

/-- A slice of squares of the call's own that reads as L. -/
def OwnWis (w w' : World) (L : List Wi) (e : Ending) : Prop := ∃ g, e = .returned (.slice (some ⟨g, 0, none⟩) L.length L.length) ∧ Below w.heap.size w w' ∧ w'.ownsRow w.heap.size 110 2 (.slice (some ⟨g, 0, none⟩) L.length L.length) L.length (flatW L)

set_option maxRecDepth 100000 in
theorem toWireS_any (A : Option Addr) (n c : Nat) (L : List Wi) (w : World) (hl : L.length = n) (hn : n ≤ c) (hreach : n ≤ 1048576) (hL : WisAt w w.heap.size A L) :
    Calls Tryd.prog 73 #[.slice A n c] w fun e w' => OwnWis w w' L e := by
  obtain ⟨i0, hi, hz0, hz1, hz2⟩ := info_parts infoWi
  go_enter Tryd.func73, Tryd.ntmps73
  go_wp2_with (at_make; refine wpList_make_full _ rfl _ _ 49 rfl w.heap.size 110 i0 (.agg #[.int .i64 0, .int .i64 0]) 2 Tryd.underlying49 hi hz0 hz1 .i64 .i64 n n n rfl rfl rfl rfl (by rw [hz2]; omega) (by unfold maxLen; omega) (Nat.le_refl _) ?_; intro w1 hown hgrow)
  have hb1 : Below w.heap.size w w1 := (Below.refl _ w).grown hgrow (Nat.le_refl _) (by simp)
  clear hgrow
  obtain ⟨g, hg⟩ : ∃ g, g = w.heap.size := ⟨_, rfl⟩
  rw [← hg] at hown hb1 ⊢
  have hBg := Lib.hid hg
  clear hg
  go_loopw [4] (fun i wr => ∃ k : Nat, k ≤ n ∧ i = .int .i64 k ∧ ∃ xs, wr.ownsRow g 110 2 (.slice (some ⟨g, 0, none⟩) n n) n xs ∧ xs.take (k * 2) = flatW (L.take k) ∧ Below g w wr) (fun i _ => n - (intOf i).toNat)
  case atStart => exact ⟨0, Nat.zero_le _, rfl, _, hown, by simp [flatW], hb1⟩
  case round =>
    obtain ⟨k, hk, rfl, xs, hown1, htake, hbr⟩ := hrel
    by_cases hlt : k < n
    · have HL := Lib.hid hl
      have HT := Lib.hid htake
      clear hl htake hown hb1 w1
      obtain ⟨s, hs⟩ : ∃ s, L[k]? = some s := ⟨_, List.getElem?_eq_getElem (by rw [HL.out]; exact hlt)⟩
      obtain ⟨b, off, rfl, hb, c0, c1⟩ := hL k s hs
      rw [← hBg.out] at hb
      have HS := Lib.hid hs
      clear hs hL
      have c0' := (hbr.cell (p := ⟨b, off + k * 2, none⟩) hb).trans c0
      have c1' := (hbr.cell (p := ⟨b, off + k * 2 + 1, none⟩) hb).trans c1
      clear c0 c1
      go_wp2_with fail
      refine (toWire_any _ _ _).mono ?_
      rintro e w2 ⟨rfl, hb2⟩
      have hown2 := own_keep hown1 hb2
      obtain ⟨v0, e0⟩ := own_some hown2 (j := k * 2) (by omega)
      obtain ⟨v1, e1⟩ := own_some hown2 (j := k * 2 + 1) (by omega)
      have f0 := hown2.frozenAt (k * 2)
      have f1 := hown2.frozenAt (k * 2 + 1)
      go_wp2_with fail
      have hx := hown1.1
      have R := (((hown2.stored (k * 2) (.int .i64 s.a)).1).stored (k * 2 + 1) (.int .i64 s.b)).1
      have hgl := own_lt hown1
      have hB := ((hbr.trans (hb2.mono (by omega))).setCell (p := ⟨g, k * 2, none⟩) (Nat.le_refl _) (.int .i64 s.a)).setCell (p := ⟨g, k * 2 + 1, none⟩) (Nat.le_refl _) (.int .i64 s.b)
      go_roundw
      case rel => exact ⟨k + 1, by omega, by go_num, _, R, by rw [take_set2 _ _ _ _ (by omega), HT.out, flatW_take_succ L k s HS.out], hB⟩
      case measure => simp [intOf]; omega
    · obtain rfl : k = n := by omega
      subst hl
      have hx := hown1.1
      rw [List.take_of_length_le (by omega), List.take_of_length_le (Nat.le_refl _)] at htake
      subst htake
      go_wp2_with fail
      go_ret
      exact ⟨g, rfl, by rw [← hBg.out]; exact hbr, by rw [← hBg.out]; exact hown1⟩

theorem eqWireS_same (A A' : Option Addr) (n c c' : Nat) (L : List Wi) (w : World) (hl : L.length = n) (hn : n ≤ 1048576) (_hc : n ≤ c) (_hc' : n ≤ c') (hL : WisAt w w.heap.size A L) (hL' : WisAt w w.heap.size A' L) :
    Calls Tryd.prog 76 #[.slice A n c, .slice A' n c'] w fun e w' => e = .returned (.bool true) ∧ Below w.heap.size w w' := by
  go_enter Tryd.func76, Tryd.ntmps76
  go_wp2_with fail
  obtain ⟨g, hg⟩ : ∃ g, g = w.heap.size := ⟨_, rfl⟩
  rw [← hg] at hL hL'
  have hBg := Lib.hid hg
  clear hg
  go_loopw [5] (fun i wr => ∃ k : Nat, k ≤ n ∧ i = .int .i64 k ∧ Below g w wr) (fun i _ => n - (intOf i).toNat)
  case atStart => exact ⟨0, Nat.zero_le _, rfl, Below.refl _ _⟩
  case round =>
    obtain ⟨k, hk, rfl, hbr⟩ := hrel
    by_cases hlt : k < n
    · obtain ⟨s, hs⟩ : ∃ s, L[k]? = some s := ⟨_, List.getElem?_eq_getElem (by rw [hl]; exact hlt)⟩
      have hLw := hL.below hbr
      have hLw' := hL'.below hbr
      clear hL hL'
      obtain ⟨b, off, rfl, hb, c0, c1⟩ := hLw k s hs
      obtain ⟨b', off', rfl, hb', d0, d1⟩ := hLw' k s hs
      clear hLw hLw' hs hl
      have hsz : g ≤ wr.heap.size := by have := hbr.size; rw [hBg.out]; omega
      go_wp2_with fail
      have C0 : ∀ u : Later g wr, u.val.cell? ⟨b, off + k * 2, none⟩ = some (.int .i64 s.a) := fun u => (u.ok.cell (p := ⟨b, _, none⟩) hb).trans c0
      have C1 : ∀ u : Later g wr, u.val.cell? ⟨b, off + k * 2 + 1, none⟩ = some (.int .i64 s.b) := fun u => (u.ok.cell (p := ⟨b, _, none⟩) hb).trans c1
      have D0 : ∀ u : Later g wr, u.val.cell? ⟨b', off' + k * 2, none⟩ = some (.int .i64 s.a) := fun u => (u.ok.cell (p := ⟨b', _, none⟩) hb').trans d0
      have D1 : ∀ u : Later g wr, u.val.cell? ⟨b', off' + k * 2 + 1, none⟩ = some (.int .i64 s.b) := fun u => (u.ok.cell (p := ⟨b', _, none⟩) hb').trans d1
      have k0 : (0 : Int) ≤ (k : Int) := by omega
      have k1 : (k : Int) < (n : Int) := by omega
      refine wp_region_sub g (by kernel_rfl) (by kernel_rfl) ?_
      repeat (first | go_big_quiet_step ((go_at_call 130; exact sub_of _ hsz (eqWire_same s.a s.b _))) | quiet_step ((go_at_call 130; exact sub_of _ hsz (eqWire_same s.a s.b _))))
      refine wpQuiet_nil ?_
      rintro _ ⟨⟨w2, hb2⟩, rfl⟩
      go_wp2_with fail
      go_roundw
      case rel => exact ⟨k + 1, by omega, by go_num, hbr.trans hb2⟩
      case measure => simp [intOf]; omega
    · go_wp2_with fail
      go_ret
      exact ⟨rfl, by rw [← hBg.out]; exact hbr⟩
/-- A cut of the call's own that reads as W, H, L. -/
def OwnNet (w w' : World) (W : Int) (L : List Wi) (e : Ending) : Prop := ∃ g, e = .returned (.agg #[.int .i64 W, .slice (some ⟨g, 0, none⟩) L.length L.length]) ∧ Below w.heap.size w w' ∧ w'.ownsRow w.heap.size 110 2 (.slice (some ⟨g, 0, none⟩) L.length L.length) L.length (flatW L)

theorem szWireS_ok (A : Option Addr) (n c : Nat) (left : Int) (w : World) (h1 : left ≤ 1048576) (h : (n : Int) ≤ left) :
    Calls Tryd.prog 70 #[.slice A n c, .int .i64 left] w fun e w' => e = .returned (.int .i64 (left - n)) ∧ w = w' := by
  have h' : ¬ left - n < 0 := by omega
  go_enter Tryd.func70, Tryd.ntmps70
  go_wp2
  go_ret
  exact ⟨rfl, rfl⟩
theorem szWireS_over (A : Option Addr) (n c : Nat) (left : Int) (w : World) (h0 : 0 ≤ left) (h : left < n) (hn : n ≤ 9223372036854775807) :
    Calls Tryd.prog 70 #[.slice A n c, .int .i64 left] w fun e w' => e = .returned (.int .i64 (-1)) ∧ w = w' := by
  have h' : left - n < 0 := by omega
  go_enter Tryd.func70, Tryd.ntmps70
  go_wp2
  go_ret
  exact ⟨rfl, rfl⟩

theorem szNet_ok (W : Int) (A : Option Addr) (n c : Nat) (w : World) (hn : n ≤ 1048576) :
    Calls Tryd.prog 25 #[.agg #[.int .i64 W, .slice A n c], .int .i64 1048576] w fun e w' => e = .returned (.int .i64 (1048576 - n)) ∧ Below w.heap.size w w' := by
  have h' : ¬ (1048576 : Int) - n < 0 := by omega
  go_enter Tryd.func25, Tryd.ntmps25
  go_wp2_with fail
  refine (szWireS_ok A n c _ _ (by omega) (by omega)).mono ?_
  rintro e w' ⟨rfl, rfl⟩
  go_wp2
  go_ret
  exact ⟨rfl, (Below.refl _ _).alloc (Nat.le_refl _) _⟩
theorem szNet_over (W : Int) (A : Option Addr) (n c : Nat) (w : World) (h : 1048576 < n) (hn : n ≤ 9223372036854775807) :
    Calls Tryd.prog 25 #[.agg #[.int .i64 W, .slice A n c], .int .i64 1048576] w fun e w' => e = .returned (.int .i64 (-1)) ∧ Below w.heap.size w w' := by
  go_enter Tryd.func25, Tryd.ntmps25
  go_wp2_with fail
  refine (szWireS_over A n c _ _ (by omega) (by omega) hn).mono ?_
  rintro e w' ⟨rfl, rfl⟩
  go_wp2
  go_ret
  exact ⟨rfl, (Below.refl _ _).alloc (Nat.le_refl _) _⟩

theorem toNet_any (W : Int) (A : Option Addr) (n c : Nat) (L : List Wi) (w : World) (hl : L.length = n) (hn : n ≤ c) (hreach : n ≤ 1048576) (hL : WisAt w w.heap.size A L) :
    Calls Tryd.prog 27 #[.agg #[.int .i64 W, .slice A n c]] w fun e w' => OwnNet w w' W L e := by
  subst hl
  go_enter Tryd.func27, Tryd.ntmps27
  go_wp2_with fail
  have hb0 : Below w.heap.size w (((w.alloc (.cells #[.int .i64 W, .slice A L.length c] 46)).alloc (.cells #[.int .i64 0, .slice none 0 0] 51)).alloc (.cells #[.int .i64 W, .slice none 0 0] 51)) :=
    (((Below.refl _ _).alloc (Nat.le_refl _) _).alloc (by simp) _).alloc (by simp; omega) _
  refine (toWireS_any A _ c L _ rfl hn hreach ((hL.below hb0).mono hb0.size)).mono ?_
  rintro e w3 ⟨g, rfl, hb, hown⟩
  have hb1 := hb0.trans (hb.mono hb0.size)
  obtain ⟨hc, hf⟩ := bcell hb
  have hz := hb.size
  simp only [World.size_alloc] at hc hf hz hown
  have hgl := own_lt hown
  go_wp2_with fail
  refine bodyPost_ret (v := .agg #[.int .i64 W, .slice (some ⟨g, 0, none⟩) L.length L.length]) (by simp [results, Tryd.results27, go_sem, hc]) rfl ⟨g, rfl, ?_, ?_⟩
  · first | exact ((hb1.setCell (by simp; omega) _).setCell (by simp) _).setCell (by simp) _ | exact ((hb1.setCell (by simp; omega) _).setCell (by simp; omega) _).setCell (by simp; omega) _
  · refine own_base ?_ (show w.heap.size ≤ w.heap.size + 1 + 1 + 1 by omega)
    exact ownsRow_setCell_below (ownsRow_setCell_below (ownsRow_setCell_below hown (by simp <;> omega) _) (by simp <;> omega) _) (by simp <;> omega) _

theorem eqNet_same (W : Int) (A A' : Option Addr) (n c c' : Nat) (L : List Wi) (w : World) (hl : L.length = n) (hn : n ≤ 1048576) (hc : n ≤ c) (hc' : n ≤ c') (hL : WisAt w w.heap.size A L) (hL' : WisAt w w.heap.size A' L) :
    Calls Tryd.prog 29 #[.agg #[.int .i64 W, .slice A n c], .agg #[.int .i64 W, .slice A' n c']] w fun e w' => e = .returned (.bool true) ∧ Below w.heap.size w w' := by
  subst hl
  go_enter Tryd.func29, Tryd.ntmps29
  go_wp2_with fail
  have hb0 : Below w.heap.size w ((w.alloc (.cells #[.int .i64 W, .slice A L.length c] 51)).alloc (.cells #[.int .i64 W, .slice A' L.length c'] 51)) :=
    ((Below.refl _ _).alloc (Nat.le_refl _) _).alloc (by simp) _
  refine (eqWireS_same A A' _ c c' L _ rfl hn hc hc' ((hL.below hb0).mono hb0.size) ((hL'.below hb0).mono hb0.size)).mono ?_
  rintro e w3 ⟨rfl, hb⟩
  have hb1 := hb0.trans (hb.mono hb0.size)
  go_wp2_with fail
  go_ret
  exact ⟨rfl, hb1⟩
theorem markWireS_any (A : Option Addr) (n c base : Nat) (xs : List Value) (k0 : Int) (w : World) (hn : n ≤ 1048576) (h0 : 0 ≤ k0) (h1 : k0 ≤ 1000000000) (hown : w.ownsRow base 110 2 (.slice A n c) n xs) :
    Calls Tryd.prog 80 #[.slice A n c, .int .i64 k0] w fun e w' => e = .returned (.int .i64 (k0 + 2 * n)) ∧ w'.ownsRow base 110 2 (.slice A n c) n (flatW (upW k0 n)) ∧ w.grownBy w' (Value.slice A n c).ownBlock := by
  go_enter Tryd.func80, Tryd.ntmps80
  go_wp2_with fail
  go_loopw [1, 5] (fun q i wr => ∃ k : Nat, k ≤ n ∧ i = .int .i64 k ∧ q = .int .i64 (k0 + 2 * k) ∧ w.grownBy wr (Value.slice A n c).ownBlock ∧ ∃ ys, wr.ownsRow base 110 2 (.slice A n c) n ys ∧ ys.take (k * 2) = flatW (upW k0 k)) (fun _ i _ => n - (intOf i).toNat)
  case atStart => exact ⟨0, Nat.zero_le _, rfl, by simp, grown_refl _ _, xs, hown, by simp [flatW, upW]⟩
  case round =>
    obtain ⟨k, hk, rfl, rfl, hgr, ys, hown1, htake⟩ := hrel
    by_cases hlt : k < n
    · obtain ⟨g, rfl⟩ := own_form hown1 (by omega)
      obtain ⟨v0, e0⟩ := own_some hown1 (j := k * 2) (by omega)
      obtain ⟨v1, e1⟩ := own_some hown1 (j := k * 2 + 1) (by omega)
      have f0 := hown1.frozenAt (k * 2)
      have f1 := hown1.frozenAt (k * 2 + 1)
      have R0 := hown1.stored (k * 2) (.int .i64 (k0 + 2 * k))
      have R1 := R0.1.stored (k * 2 + 1) (.int .i64 (k0 + 2 * k + 1))
      have hy := hown1.1
      have HT := Lib.hid htake
      have HR := Lib.hid (And.intro R1.1 (grown_trans hgr (grown_trans R0.2 R1.2)))
      clear htake hown hown1 R0 R1 hgr
      go_wp2_with fail
      go_roundw
      case rel =>
        refine ⟨k + 1, by omega, by go_num, by rw [show k0 + 2 * ((k + 1 : Nat) : Int) = k0 + 2 * k + 1 + 1 by omega], HR.out.2, _, HR.out.1, ?_⟩
        rw [take_set2 _ _ _ _ (by omega), HT.out, upW_succ, flatW_app]; rfl
      case measure => simp [intOf]; omega
    · obtain rfl : k = n := by omega
      have hy := hown1.1
      rw [List.take_of_length_le (by omega)] at htake
      subst htake
      go_wp2_with fail
      go_ret
      exact ⟨rfl, hown1, hgr⟩

theorem heldWireS_any (A : Option Addr) (n c : Nat) (k0 : Int) (w : World) (hn : n ≤ 1048576) (h0 : 0 ≤ k0) (h1 : k0 ≤ 1000000000) (hL : WisAt w w.heap.size A (upW k0 n)) :
    Calls Tryd.prog 81 #[.slice A n c, .int .i64 k0] w fun e w' => e = .returned (.int .i64 (k0 + 2 * n)) ∧ w = w' := by
  go_enter Tryd.func81, Tryd.ntmps81
  go_wp2_with fail
  go_loop [1, 5] (fun q i => ∃ k : Nat, k ≤ n ∧ i = .int .i64 k ∧ q = .int .i64 (k0 + 2 * k)) (fun _ i => n - (intOf i).toNat)
  case atStart => exact ⟨0, Nat.zero_le _, rfl, by simp⟩
  case round =>
    obtain ⟨k, hk, rfl, rfl⟩ := hrel
    by_cases hlt : k < n
    · obtain ⟨b, off, rfl, hb, c0, c1⟩ := hL k _ (upW_get k0 n k hlt)
      simp only at c0 c1
      clear hL
      go_wp2_with fail
      go_round
      case rel => exact ⟨k + 1, by omega, by go_num, by rw [show k0 + 2 * ((k + 1 : Nat) : Int) = k0 + 2 * k + 1 + 1 by omega]⟩
      case measure => simp [intOf]; omega
    · obtain rfl : k = n := by omega
      go_wp2_with fail
      go_ret
      exact ⟨rfl, rfl⟩
/-- It returns a net in memory of the call's own, and a bool. -/
def RetNet (w : World) (W : Int) (R : List Wi) (ok : Bool) (e : Ending) (w' : World) : Prop :=
  ∃ A c, e = .returned (.tuple #[.agg #[.int .i64 W, .slice A R.length c], .bool ok]) ∧ w'.ownsRow w.heap.size 110 2 (.slice A R.length c) R.length (flatW R) ∧ Below w.heap.size w w'
theorem RetNet.mk {w w' : World} {W : Int} {A : Option Addr} {n c : Nat} {R : List Wi} {ok : Bool} (hn : n = R.length) (ho : w'.ownsRow w.heap.size 110 2 (.slice A n c) n (flatW R)) (hb : Below w.heap.size w w') :
    RetNet w W R ok (.returned (.tuple #[.agg #[.int .i64 W, .slice A n c], .bool ok])) w' := by
  subst hn; exact ⟨A, c, rfl, ho, hb⟩
theorem RetNet.none_ {w w' : World} (hb : Below w.heap.size w w') : RetNet w 0 [] false (.returned (.tuple #[.agg #[.int .i64 0, .slice none 0 0], .bool false])) w' :=
  ⟨none, 0, rfl, World.ownsRow_nil _ _ _ _, hb⟩


theorem wisS {B : Nat} {Wc wp : World} {A : Option Addr} {L : List Wi} (h : WisAt Wc B A L) (hS : Below B Wc wp ∧ B ≤ wp.heap.size ∧ ∀ b o, b < B → wp.cell? ⟨b, o, none⟩ = Wc.cell? ⟨b, o, none⟩) : WisAt wp wp.heap.size A L :=
  (h.below hS.1).mono hS.2.1
theorem markNet_any (W : Int) (A : Option Addr) (n c base : Nat) (xs : List Value) (k0 : Int) (w : World) (hn : n ≤ 1048576) (h0 : 0 ≤ k0) (h1 : k0 ≤ 1000000000) (hown : w.ownsRow base 110 2 (.slice A n c) n xs) :
    Calls Tryd.prog 32 #[.agg #[.int .i64 W, .slice A n c], .int .i64 k0] w fun e w' => e = .returned (.int .i64 (k0 + 2 * n)) ∧ w'.ownsRow base 110 2 (.slice A n c) n (flatW (upW k0 n)) ∧ w.grownBy w' (Value.slice A n c).ownBlock := by
  have hb0 : ∀ o : Obj, w.grownBy (w.alloc o) (Value.slice A n c).ownBlock := fun o => World.grownBy_alloc w o _
  go_enter Tryd.func32, Tryd.ntmps32
  go_wp2_with fail
  refine (markWireS_any A n c base xs k0 _ hn h0 h1 (hown.alloc _)).mono ?_
  rintro e w1 ⟨rfl, ho, hg⟩
  go_wp2_with fail
  go_ret
  exact ⟨rfl, ho, grown_trans (hb0 _) hg⟩

theorem heldNet_any (W : Int) (A : Option Addr) (n c : Nat) (k0 : Int) (w : World) (hn : n ≤ 1048576) (h0 : 0 ≤ k0) (h1 : k0 ≤ 1000000000) (hL : WisAt w w.heap.size A (upW k0 n)) :
    Calls Tryd.prog 33 #[.agg #[.int .i64 W, .slice A n c], .int .i64 k0] w fun e w' => e = .returned (.int .i64 (k0 + 2 * n)) ∧ Below w.heap.size w w' := by
  have hb0 : ∀ o : Obj, Below w.heap.size w (w.alloc o) := fun o => (Below.refl _ _).alloc (Nat.le_refl _) o
  have h' : ¬ k0 + 2 * (n : Int) < 0 := by omega
  go_enter Tryd.func33, Tryd.ntmps33
  go_wp2_with fail
  refine (heldWireS_any A n c k0 _ hn h0 h1 ((hL.below (hb0 _)).mono (hb0 _).size)).mono ?_
  rintro e w1 ⟨rfl, rfl⟩
  go_wp2_with fail
  go_ret
  exact ⟨rfl, hb0 _⟩
/-- A boxed net's two cells. -/
structure Nx (B : Nat) (w : World) (W : Int) (A : Option Addr) (n c : Nat) : Prop where
  lt : B < w.heap.size
  c0 : w.cell? ⟨B, 0, none⟩ = some (.int .i64 W)
  c1 : w.cell? ⟨B, 1, none⟩ = some (.slice A n c)
theorem Nx.next {B : Nat} {w w' : World} {W : Int} {A : Option Addr} {n c : Nat} (h : Nx B w W A n c) (hb : Below w.heap.size w w') : Nx B w' W A n c :=
  ⟨Nat.lt_of_lt_of_le h.lt hb.size, (hb.cell (p := ⟨B, 0, none⟩) h.lt).trans h.c0, (hb.cell (p := ⟨B, 1, none⟩) h.lt).trans h.c1⟩
theorem Nx.far {B : Nat} {w w' : World} {W : Int} {A : Option Addr} {n c : Nat} {row : Option Nat} (h : Nx B w W A n c) (hg : w.grownBy w' row) (hne : row ≠ some B) : Nx B w' W A n c :=
  ⟨Nat.lt_of_lt_of_le h.lt hg.size, hg.cell h.c0 (fun e => hne e.symm), hg.cell h.c1 (fun e => hne e.symm)⟩
theorem Nx.start (w : World) (W : Int) (A : Option Addr) (n c : Nat) (t : TypeId) : Nx w.heap.size (w.alloc (.cells #[.int .i64 W, .slice A n c] t)) W A n c :=
  ⟨by simp, by simp, by simp⟩
end Go.Proofs.YtbkfenhiaedlgaaDoor
