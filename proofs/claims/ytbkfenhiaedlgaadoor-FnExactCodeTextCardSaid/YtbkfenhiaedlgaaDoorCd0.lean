/- Texts of codes: plain, and the model's text. -/
import Derived.Test.YtbkfenhiaedlgaaDoorCodeM
import Derived.Test.YtbkfenhiaedlgaaDoorNt
set_option linter.all false
namespace Go.Proofs.YtbkfenhiaedlgaaDoor
open Go.RowKit

def dcs (g : List Int) : List (List UInt8) := g.map fun r => dec r.toNat
/-- A group's text. -/
def grt (g : List Int) : List UInt8 := 40 :: (Lib.join (dcs g) [44] ++ [41])
/-- A code's text. -/
def cdt (M : List (List Int)) : List UInt8 := (M.map grt).flatten
def Sm (g : List Int) : Prop := g.length ≤ 30 ∧ ∀ s ∈ g, 0 ≤ s ∧ s ≤ 1000
theorem join_snocD (xs : List (List UInt8)) (y sep : List UInt8) : Lib.join (xs ++ [y]) sep = if xs = [] then y else Lib.join xs sep ++ sep ++ y := by
  cases xs with
  | nil => simp [Lib.join_one]
  | cons x r =>
    rw [if_neg (by simp), List.cons_append, Lib.join_cons, Lib.join_cons]
    simp [Lib.joinTail]
theorem dcs_len {g : List Int} (h : Sm g) (j : Nat) : (Lib.join (dcs (g.take j)) [44]).length ≤ 200 := by
  have c := join_le (dcs (g.take j)) [44] 4 (fun x hx => by
    obtain ⟨s, hs, rfl⟩ := List.mem_map.1 hx
    have := h.2 s (List.mem_of_mem_take hs)
    exact dec_len s.toNat 3 (by omega))
  have h2 : (g.take j).length ≤ 30 := by rw [List.length_take]; have := h.1; omega
  simp only [dcs, List.length_map, List.length_cons, List.length_nil] at c ⊢
  omega
theorem grt_len {g : List Int} (h : Sm g) : (grt g).length ≤ 210 := by
  have c := dcs_len h g.length
  rw [List.take_of_length_le (Nat.le_refl _)] at c
  simp only [grt, List.length_cons, List.length_append, List.length_nil]; omega
theorem cdt_len : ∀ {M : List (List Int)}, (∀ l ∈ M, Sm l) → (cdt M).length ≤ 210 * M.length
  | [], _ => by simp [cdt]
  | g :: M, h => by
    have h1 := grt_len (h g (by simp))
    have h2 := cdt_len (M := M) fun l hl => h l (List.mem_cons_of_mem _ hl)
    simp only [cdt, List.map_cons, List.flatten_cons, List.length_append, List.length_cons] at h2 ⊢
    omega
theorem cdt_succ (M : List (List Int)) (k : Nat) (g : List Int) (h : M[k]? = some g) : cdt (M.take (k + 1)) = cdt (M.take k) ++ grt g := by
  obtain ⟨hk, e⟩ := List.getElem?_eq_some_iff.1 h
  rw [List.take_succ_eq_append_getElem hk, e]; simp [cdt]
theorem dcs_first (g : List Int) (u : Int) (h : g[0]? = some u) : Lib.join (dcs (g.take 1)) [44] = dec u.toNat := by
  obtain ⟨hk, e⟩ := List.getElem?_eq_some_iff.1 h
  rw [List.take_succ_eq_append_getElem hk, e]; simp [dcs, Lib.join_one]
theorem dcs_succ (g : List Int) (j : Nat) (u : Int) (h : g[j]? = some u) (hj : 0 < j) : Lib.join (dcs (g.take (j + 1))) [44] = Lib.join (dcs (g.take j)) [44] ++ 44 :: dec u.toNat := by
  obtain ⟨hk, e⟩ := List.getElem?_eq_some_iff.1 h
  rw [List.take_succ_eq_append_getElem hk, e]
  simp only [dcs, List.map_append, List.map_cons, List.map_nil, join_snocD]
  rw [if_neg]
  · simp
  · intro hh
    have h1 : (g.take j).length = 0 := by rw [← List.length_map (f := fun r : Int => dec r.toNat), hh]; rfl
    rw [List.length_take] at h1; omega
theorem str40 : (⟨#[40]⟩ : ByteArray) = bas [40] := rfl
theorem str41 : (⟨#[41]⟩ : ByteArray) = bas [41] := rfl
theorem str44c : (⟨#[44]⟩ : ByteArray) = bas [44] := rfl
set_option maxRecDepth 100000 in
set_option maxHeartbeats 8000000 in
theorem bkText_any (A : Option Addr) (n c : Nat) (M : List (List Int)) (w : World) (hl : M.length = n) (hn : n ≤ 30) (hM : RowsZ w w.heap.size A M) (hG : ∀ l ∈ M, Sm l) :
    Calls Tryd.prog 63 #[.slice A n c] w fun e w' => e = .returned (.string (bas (cdt M))) ∧ Below w.heap.size w w' := by
  subst hl
  have hTl : ∀ k, (cdt (M.take k)).length ≤ 6300 := fun k => by
    have h1 := cdt_len (M := M.take k) fun l hl => hG l (List.mem_of_mem_take hl)
    have h2 : (M.take k).length ≤ 30 := by rw [List.length_take]; omega
    omega
  have HTL := Lib.hid hTl
  have HMT := Lib.hid (show cdt M = cdt (M.take M.length) by rw [List.take_of_length_le (Nat.le_refl _)])
  rw [HMT.out]
  clear hTl
  go_enter Tryd.func63, Tryd.ntmps63
  go_wp2_with fail
  go_loopw [3, 10] (fun v i wr => ∃ k : Nat, k ≤ M.length ∧ i = .int .i64 k ∧ v = .string (bas (cdt (M.take k))) ∧ Below w.heap.size w wr) (fun _ i _ => M.length - (intOf i).toNat)
  case atStart => exact ⟨0, Nat.zero_le _, rfl, rfl, Below.refl _ _⟩
  case round =>
    obtain ⟨k, hk, rfl, rfl, hbr⟩ := hrel
    by_cases hlt : k < M.length
    · obtain ⟨g, hgk⟩ : ∃ g, M[k]? = some g := ⟨_, List.getElem?_eq_getElem hlt⟩
      obtain ⟨b0, off, A', c', rfl, hb0, d00, hgc, hI, _⟩ := hM k g hgk
      have d0 := (hbr.cell (p := ⟨b0, off + k, none⟩) hb0).trans d00
      clear d00
      have hsm := hG g (List.mem_of_getElem? hgk)
      have HSU := Lib.hid (cdt_succ M k g hgk)
      have hl1 := HTL.out k
      have sT := bas_size (cdt (M.take k))
      obtain ⟨TK, hTK⟩ : ∃ TK, bas (cdt (M.take k)) = TK := ⟨_, rfl⟩
      rw [hTK] at sT ⊢
      have n40 : (⟨#[40]⟩ : ByteArray).size = 1 := rfl
      have u1 : ¬ 9223372036854775807 < TK.size + (⟨#[40]⟩ : ByteArray).size := by omega
      have i1 : (0 : Int) ≤ (k : Int) := by omega
      have i2 : (k : Int) < (M.length : Int) := by omega
      have HTK := Lib.hid hTK
      have HGK := Lib.hid hgk
      have HI := Lib.hid hI
      have HSM := Lib.hid hsm
      have hgl := hsm.1
      clear hTK hgk hI hsm n40
      go_wp2_with fail
      have e40 : TK ++ ⟨#[40]⟩ = bas (cdt (M.take k) ++ 40 :: Lib.join (dcs (g.take 0)) [44]) := by
        rw [← HTK.out, str40, bas_app]; simp [dcs, Lib.join_nil]
      rw [e40]
      obtain ⟨P0, hP0⟩ : ∃ P0, bas (cdt (M.take k) ++ 40 :: Lib.join (dcs (g.take 0)) [44]) = P0 := ⟨_, rfl⟩
      rw [hP0]
      have HP0 := Lib.hid hP0
      clear e40 u1 hP0
      go_loopw [3, 18] (fun v i wl => ∃ j : Nat, j ≤ g.length ∧ i = .int .i64 j ∧ v = .string (bas (cdt (M.take k) ++ 40 :: Lib.join (dcs (g.take j)) [44])) ∧ Below w.heap.size w wl) (fun _ i _ => g.length - (intOf i).toNat)
      case atStart => exact ⟨0, Nat.zero_le _, rfl, by rw [HP0.out], hbr⟩
      case round =>
        obtain ⟨j, hj, rfl, rfl, hbl⟩ := hrel
        have hlj := dcs_len HSM.out j
        have sP := bas_size (cdt (M.take k) ++ 40 :: Lib.join (dcs (g.take j)) [44])
        simp only [List.length_append, List.length_cons] at sP
        by_cases hjl : j < g.length
        · obtain ⟨u, hu⟩ : ∃ u, g[j]? = some u := ⟨_, List.getElem?_eq_getElem hjl⟩
          obtain ⟨b1, of1, rfl, hb1, p0⟩ := (HI.out.below hbl) j u hu
          have hub := HSM.out.2 u (List.mem_of_getElem? hu)
          have C1 := Lib.hid (fun (V : World) => numL u hub V)
          have s1 := bas_size (dec u.toNat)
          have g1 := dec_6 (n := u.toNat) (by omega)
          have HF := Lib.hid (dcs_first g u)
          have HS := Lib.hid (dcs_succ g j u hu)
          have HU := Lib.hid hu
          obtain ⟨x, hx⟩ : ∃ x, bas (dec u.toNat) = x := ⟨_, rfl⟩
          obtain ⟨P, hP⟩ : ∃ P, bas (cdt (M.take k) ++ 40 :: Lib.join (dcs (g.take j)) [44]) = P := ⟨_, rfl⟩
          rw [hx] at s1 C1
          rw [hP] at sP ⊢
          have n44 : (⟨#[44]⟩ : ByteArray).size = 1 := rfl
          have u1 : ¬ 9223372036854775807 < P.size + x.size := by omega
          have v1 : ¬ 9223372036854775807 < P.size + (⟨#[44]⟩ : ByteArray).size := by omega
          have v2 : ¬ 9223372036854775807 < (P ++ ⟨#[44]⟩).size + x.size := by rw [ByteArray.size_append]; omega
          have j1 : (0 : Int) ≤ (j : Int) := by omega
          have j2 : (j : Int) < (g.length : Int) := by omega
          have HX := Lib.hid (And.intro hx hP)
          clear hx hP hu n44 s1 g1 sP hlj
          by_cases hj0 : j = 0
          · have e1 : P ++ x = bas (cdt (M.take k) ++ 40 :: Lib.join (dcs (g.take (j + 1))) [44]) := by
              obtain ⟨q1, q2⟩ := HX.out
              have hu0 := HU.out
              subst hj0
              rw [HF.out hu0, ← q1, ← q2, bas_app]; simp [dcs, Lib.join_nil]
            have d1 : decide ((0 : Int) < (j : Int)) = false := by simp; omega
            have d2 : ¬ (0 : Int) < (j : Int) := by omega
            have HE1 := Lib.hid e1
            clear e1 hj0 v1 v2
            go_wp2_with fail
            (with_reducible refine (C1.out _).mono ?_)
            rintro e w5 ⟨rfl, hb5⟩
            go_wp2_with fail
            go_roundw
            case rel => exact ⟨j + 1, by omega, by go_num, by rw [HE1.out], hbl.trans (hb5.mono hbl.size)⟩
            case measure => simp [intOf]; omega
          · have e1 : P ++ ⟨#[44]⟩ ++ x = bas (cdt (M.take k) ++ 40 :: Lib.join (dcs (g.take (j + 1))) [44]) := by
              obtain ⟨q1, q2⟩ := HX.out
              rw [HS.out (by omega), ← q1, ← q2, str44c, bas_app, bas_app]; simp
            have d1 : decide ((0 : Int) < (j : Int)) = true := by simp; omega
            have d2 : (0 : Int) < (j : Int) := by omega
            have HE1 := Lib.hid e1
            clear e1 hj0 u1
            go_wp2_with fail
            (with_reducible refine (C1.out _).mono ?_)
            rintro e w5 ⟨rfl, hb5⟩
            go_wp2_with fail
            go_roundw
            case rel => exact ⟨j + 1, by omega, by go_num, by rw [HE1.out], hbl.trans (hb5.mono hbl.size)⟩
            case measure => simp [intOf]; omega
        · obtain rfl : j = g.length := by omega
          have n41 : (⟨#[41]⟩ : ByteArray).size = 1 := rfl
          obtain ⟨P, hP⟩ : ∃ P, bas (cdt (M.take k) ++ 40 :: Lib.join (dcs (g.take g.length)) [44]) = P := ⟨_, rfl⟩
          rw [hP] at sP ⊢
          have u1 : ¬ 9223372036854775807 < P.size + (⟨#[41]⟩ : ByteArray).size := by omega
          have e1 : P ++ ⟨#[41]⟩ = bas (cdt (M.take (k + 1))) := by
            rw [← hP, str41, bas_app, HSU.out, List.take_of_length_le (Nat.le_refl _)]; simp [grt]
          have HE1 := Lib.hid e1
          have j2 : ¬ (g.length : Int) < (g.length : Int) := by omega
          clear e1 hP n41 sP hlj
          go_wp2_with fail
          go_roundw
          case rel => exact ⟨k + 1, by omega, by go_num, by rw [HE1.out], hbl⟩
          case measure => simp [intOf]; omega
    · obtain rfl : k = M.length := by omega
      have i2 : ¬ (M.length : Int) < (M.length : Int) := by omega
      obtain ⟨TK, hTK⟩ : ∃ TK, bas (cdt (M.take M.length)) = TK := ⟨_, rfl⟩
      rw [hTK]
      go_wp2_with fail
      go_ret
      exact ⟨by first | rfl | (rw [← hTK]; first | rfl | (rw [← HMT.out]; rfl)), hbr⟩
end Go.Proofs.YtbkfenhiaedlgaaDoor
