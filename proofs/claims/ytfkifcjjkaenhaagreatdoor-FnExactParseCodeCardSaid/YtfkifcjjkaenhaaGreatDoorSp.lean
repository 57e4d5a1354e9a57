/- The model's reading of texts: l1Read, l1Split. -/
import Derived.Test.YtfkifcjjkaenhaaGreatDoorTxI
import Derived.Test.YtfkifcjjkaenhaaGreatDoorCt
set_option linter.all false
namespace Go.Proofs.YtfkifcjjkaenhaaGreatDoor
open Go.RowKit

/-- A text's number, as far as it was read. -/
def rdF (l : List UInt8) : Nat := l.foldl (fun n c => 10 * n + (c.toNat - 48)) 0
def rdG (l : List UInt8) : Prop := 1 ≤ l.length ∧ l.length ≤ 6 ∧ ¬ (l[0]? = some 48 ∧ 1 < l.length) ∧ ∀ c ∈ l, 48 ≤ c.toNat ∧ c.toNat ≤ 57
/-- What l1Read returns. -/
noncomputable def rdI (l : List UInt8) : Int := if dc (rdG l) then (rdF l : Int) else -1
theorem rdI_no {l : List UInt8} (h : ¬ rdG l) : rdI l = -1 := by unfold rdI; rw [dc_false h]; rfl
theorem rdI_yes {l : List UInt8} (h : rdG l) : rdI l = rdF l := by unfold rdI; rw [dc_true h]; rfl
theorem rdF_take {l : List UInt8} {k : Nat} (h : k < l.length) : rdF (l.take (k + 1)) = 10 * rdF (l.take k) + (l[k].toNat - 48) := by
  unfold rdF; rw [List.take_succ_eq_append_getElem h, List.foldl_append]; rfl
theorem rdF_le (l : List UInt8) (hd : ∀ c ∈ l, 48 ≤ c.toNat ∧ c.toNat ≤ 57) : ∀ k, k ≤ l.length → rdF (l.take k) < 10 ^ k := by
  intro k
  induction k with
  | zero => intro _; simp [rdF]
  | succ k ih =>
    intro hk
    have := ih (by omega)
    have h2 := hd l[k] (List.getElem_mem _)
    rw [rdF_take (by omega), Nat.pow_succ]; omega
theorem getk (s : ByteArray) (k : Nat) (h : k < s.size) : s.data.toList[k]? = some (s[k]'h) := by
  have h' : k < s.data.size := h
  rw [Array.getElem?_toList, Array.getElem?_eq_getElem h']; rfl
theorem get0 (s : ByteArray) (h : 0 < s.size) : s.data.toList[0]? = some (s[0]'h) := getk s 0 h
set_option maxRecDepth 100000 in
set_option maxHeartbeats 4000000 in
theorem read_any (s : ByteArray) (w : World) :
    Calls Tryz.prog 20 #[.string s] w fun e w' => e = .returned (.int .i64 (rdI s.data.toList)) ∧ w = w' := by
  have hlen : s.data.toList.length = s.size := rfl
  by_cases hL : 1 ≤ s.size ∧ s.size ≤ 6
  · have C0 : Calls Tryz.prog 31 #[.int .i64 s.size, .int .i64 1, .int .i64 6] w fun e w' => e = .returned (.bool true) ∧ w = w' := (l1In_any _ _ _ w).mono (by rintro e w' ⟨rfl, rfl⟩; exact ⟨by rw [inB_iff.2 ⟨by omega, by omega⟩], rfl⟩)
    have C0 := Lib.hid C0
    have i0 : (0 : Nat) < s.size := by omega
    go_enter Tryz.func20, Tryz.ntmps20
    go_wp2_with fail
    (with_reducible refine C0.out.mono ?_)
    rintro e w1 ⟨rfl, rfl⟩
    by_cases hz : (s[0]'i0).toNat = 48 ∧ 1 < s.size
    · have z1 : ((s[0]'i0).toNat : Int) = 48 := by omega
      have z2 : ¬ (s.size : Int) ≤ 1 := by omega
      have er : rdI s.data.toList = -1 := rdI_no (fun h => h.2.2.1 ⟨by rw [get0 s i0]; exact congrArg some (UInt8.toNat_inj.1 hz.1), hz.2⟩)
      go_wp2_with fail
      all_goals first
        | (exfalso; omega)
        | (go_ret; exact ⟨by first | rfl | (rw [er]; rfl), rfl⟩)
    · have G0 : ∀ l, l = s.data.toList → (∀ c ∈ l, 48 ≤ c.toNat ∧ c.toNat ≤ 57) → rdG l := fun l e h => by subst e; exact ⟨hL.1, hL.2, fun h2 => hz ⟨by have := h2.1; rw [get0 s i0] at this; have := Option.some.inj this; rw [this]; rfl, h2.2⟩, h⟩
      have G0 := Lib.hid (G0 _ rfl)
      go_wp2_with fail
      all_goals first
        | (exfalso; omega)
        | skip
      all_goals clear C0
      all_goals (
        go_loopw [3, 4] (fun v i wr => ∃ k : Nat, k ≤ s.size ∧ i = .int .i64 k ∧ v = .int .i64 (rdF (s.data.toList.take k)) ∧ (∀ c ∈ s.data.toList.take k, 48 ≤ c.toNat ∧ c.toNat ≤ 57) ∧ w = wr) (fun _ i _ => s.size - (intOf i).toNat)
        case atStart => exact ⟨0, Nat.zero_le _, rfl, by simp [rdF], by simp, rfl⟩
        case round =>
          obtain ⟨k, hk, rfl, rfl, hd, rfl⟩ := hrel
          by_cases hlt : k < s.size
          · have i1 : (0 : Int) ≤ (k : Int) := by omega
            have i2 : (k : Int) < (s.size : Int) := by omega
            have hget := getk s k hlt
            by_cases hlo : (s[k]'hlt).toNat < 48
            · have c1 : ((s[k]'hlt).toNat : Int) < 48 := by omega
              have er : rdI s.data.toList = -1 := rdI_no (fun h => by have := (h.2.2.2 _ (List.mem_of_getElem? hget)).1; omega)
              go_wp2_with fail
              go_ret
              exact ⟨by first | rfl | (rw [er]; rfl), rfl⟩
            · have c1 : ¬ ((s[k]'hlt).toNat : Int) < 48 := by omega
              by_cases hhi : 57 < (s[k]'hlt).toNat
              · have c2 : (57 : Int) < ((s[k]'hlt).toNat : Int) := by omega
                have er : rdI s.data.toList = -1 := rdI_no (fun h => by have := (h.2.2.2 _ (List.mem_of_getElem? hget)).2; omega)
                go_wp2_with fail
                go_ret
                exact ⟨by first | rfl | (rw [er]; rfl), rfl⟩
              · have c2 : ¬ (57 : Int) < ((s[k]'hlt).toNat : Int) := by omega
                have hF := rdF_take (l := s.data.toList) (k := k) (by omega)
                have hFl := rdF_le _ hd k (by simp; omega)
                have hd2 : ∀ c ∈ s.data.toList.take (k + 1), 48 ≤ c.toNat ∧ c.toNat ≤ 57 := by
                  intro c hc
                  rw [List.take_succ, hget] at hc
                  rcases List.mem_append.1 hc with h | h
                  · exact hd c h
                  · obtain rfl : c = s[k] := by simpa using h
                    omega
                have hgl : s.data.toList[k]'(by omega) = s[k] := by have := List.getElem?_eq_getElem (l := s.data.toList) (i := k) (by omega); rw [hget] at this; exact (Option.some.inj this).symm
                rw [hgl] at hF
                have hp : (10 : Nat) ^ k ≤ 10 ^ 6 := Nat.pow_le_pow_right (by omega) (by omega)
                rw [List.take_take, Nat.min_self] at hFl
                obtain ⟨F, hFF⟩ : ∃ F, F = rdF (s.data.toList.take k) := ⟨_, rfl⟩
                rw [← hFF] at hF hFl ⊢
                have w1 : IntKind.i64.wrap (10 * (F : Int)) = 10 * (F : Int) := IntWalk.i64_in _ (by omega)
                have w2 : IntKind.u8.wrap (((s[k]'hlt).toNat : Int) - 48) = ((s[k]'hlt).toNat : Int) - 48 := IntWalk.u8_in _ (by omega)
                have w3 : IntKind.i64.wrap (((s[k]'hlt).toNat : Int) - 48) = ((s[k]'hlt).toNat : Int) - 48 := IntWalk.i64_in _ (by omega)
                have w4 : IntKind.i64.wrap (10 * (F : Int) + (((s[k]'hlt).toNat : Int) - 48)) = 10 * (F : Int) + (((s[k]'hlt).toNat : Int) - 48) := IntWalk.i64_in _ (by omega)
                go_wp2_with fail
                go_roundw
                case rel => exact ⟨k + 1, by omega, by go_num, by rw [hF]; congr 1; omega, hd2, trivial⟩
                case measure => simp [intOf]; omega
          · obtain rfl : k = s.size := by omega
            rw [List.take_of_length_le (by omega)] at hd
            have et : List.take s.size s.data.toList = s.data.toList := List.take_of_length_le (by omega)
            have er := rdI_yes (G0.out hd)
            have i2 : ¬ (s.size : Int) < (s.size : Int) := by omega
            go_wp2_with fail
            go_ret
            exact ⟨by first | rfl | (rw [er]; rfl) | (rw [er, et]; rfl), rfl⟩)
  · have C0 : Calls Tryz.prog 31 #[.int .i64 s.size, .int .i64 1, .int .i64 6] w fun e w' => e = .returned (.bool false) ∧ w = w' := (l1In_any _ _ _ w).mono (by rintro e w' ⟨rfl, rfl⟩; exact ⟨by rw [show inB (s.size : Int) 1 6 = false from Bool.eq_false_iff.2 (fun h => hL (by have := inB_iff.1 h; omega))], rfl⟩)
    have C0 := Lib.hid C0
    rw [rdI_no (fun h => hL ⟨by have := h.1; omega, by have := h.2.1; omega⟩)]
    go_enter Tryz.func20, Tryz.ntmps20
    go_wp2_with fail
    (with_reducible refine C0.out.mono ?_)
    rintro e w1 ⟨rfl, rfl⟩
    go_wp2_with fail
    go_ret
    exact ⟨rfl, rfl⟩

/-- Splitting at a byte. -/
def spl (b : UInt8) : List UInt8 → List (List UInt8)
  | [] => [[]]
  | c :: r => if c = b then [] :: spl b r else
    match spl b r with
    | [] => [[c]]
    | h :: t => (c :: h) :: t
theorem spl_ne (b : UInt8) (l : List UInt8) : spl b l ≠ [] := by
  cases l with
  | nil => simp [spl]
  | cons c r => unfold spl; split; simp; split <;> simp
/-- A piece goes before the first one. -/
def onto (p : List UInt8) : List (List UInt8) → List (List UInt8)
  | [] => []
  | h :: t => (p ++ h) :: t
theorem spl_at (b : UInt8) (p r : List UInt8) (hp : b ∉ p) : spl b (p ++ b :: r) = p :: spl b r := by
  induction p with
  | nil => simp [spl]
  | cons c p ih =>
    have h1 : c ≠ b := fun e => hp (by simp [e])
    have h2 := ih (fun h => hp (List.mem_cons_of_mem _ h))
    rw [List.cons_append, spl, if_neg h1, h2]
theorem spl_no (b : UInt8) (p : List UInt8) (hp : b ∉ p) : spl b p = [p] := by
  induction p with
  | nil => rfl
  | cons c p ih =>
    have h1 : c ≠ b := fun e => hp (by simp [e])
    rw [spl, if_neg h1, ih (fun h => hp (List.mem_cons_of_mem _ h))]
theorem spl_join (b : UInt8) : ∀ R : List (List UInt8), R ≠ [] → (∀ l ∈ R, b ∉ l) → spl b (Lib.join R [b]) = R
  | [], h, _ => absurd rfl h
  | [p], _, h => by
    have e : Lib.join [p] [b] = p := by simp [Lib.join]
    rw [e]; exact spl_no b p (h p (by simp))
  | p :: q :: R, _, h => by
    have e : Lib.join (p :: q :: R) [b] = p ++ b :: Lib.join (q :: R) [b] := by simp [Lib.join]
    rw [e, spl_at b p _ (h p (by simp)), spl_join b (q :: R) (by simp) (fun l hl => h l (List.mem_cons_of_mem _ hl))]
theorem join_spl (b : UInt8) (l : List UInt8) : Lib.join (spl b l) [b] = l := by
  induction l with
  | nil => simp [spl, Lib.join]
  | cons c r ih =>
    unfold spl
    split
    · rename_i h; subst h
      cases h : spl c r with
      | nil => exact absurd h (spl_ne _ _)
      | cons x t => rw [h] at ih; have e : Lib.join ([] :: x :: t) [c] = c :: Lib.join (x :: t) [c] := by simp [Lib.join]
                    rw [e, ih]
    · cases h : spl b r with
      | nil => exact absurd h (spl_ne _ _)
      | cons x t =>
        rw [h] at ih
        cases t with
        | nil => simp [Lib.join] at ih ⊢; exact ih
        | cons y t => simp [Lib.join] at ih ⊢; exact ih
end Go.Proofs.YtfkifcjjkaenhaaGreatDoor
