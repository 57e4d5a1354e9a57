/- Texts of numbers and of cuts: the model. -/
import Derived.Test.YtfkifcjjkaenhaaGreatDoorGen
import Derived.Test.YtfkifcjjkaenhaaGreatDoorLast
import Derived.Laws.IdiomStrings
set_option linter.all false
namespace Go.Proofs.YtfkifcjjkaenhaaGreatDoor
open Go.RowKit

section
variable {P : Program} {ops : Array Oper} {Q : Exit → Act → World → Prop} {md : Region.Mode} {S : World → Prop}
/-- Two operations that may come. -/
theorem wpTop.duo (i j : Nat) {n : Nat} {o o' : Oper} {f : Nat} {done : Array Bool} {a : Act} {w : World} (ho : ops[i]? = some o) (ho' : ops[j]? = some o') (hr : Region.ready md ops done = [i, j])
    (h : ∀ K' : Act → World → Prop, Shut (∀ a w, (i < n → S w) → ((i < n → S w) → wpTop P md ops Q S n f (done.setIfInBounds i true) a w) → K' a w) →
      if Region.wanted o (yielded ops a.tmps) = true then Oper.wp P o a w K' Q else K' (a.put o.dst undef) w)
    (h' : ∀ K' : Act → World → Prop, Shut (∀ a w, (j < n → S w) → ((j < n → S w) → wpTop P md ops Q S n f (done.setIfInBounds j true) a w) → K' a w) →
      if Region.wanted o' (yielded ops a.tmps) = true then Oper.wp P o' a w K' Q else K' (a.put o'.dst undef) w) : wpTop P md ops Q S n (f + 1) done a w := by
  refine ⟨fun e => (by rw [hr] at e; cases e), fun k hk => ?_⟩
  rw [hr] at hk
  rcases List.mem_cons.1 hk with rfl | hk
  · exact wpOp_step ho fun K' hK => h K' fun a w hS hW => hK a w ⟨hS, hW hS⟩
  · obtain rfl := List.mem_singleton.1 hk
    exact wpOp_step ho' fun K' hK => h' K' fun a w hS hW => hK a w ⟨hS, hW hS⟩
end
/-- A digit's byte. -/
def dig (k : Nat) : UInt8 := UInt8.ofNat (48 + k)
/-- A number's digits. -/
def dec (n : Nat) : List UInt8 := if h : n < 10 then [dig n] else dec (n / 10) ++ [dig (n % 10)]
termination_by n
decreasing_by omega
theorem dec_small {n : Nat} (h : n < 10) : dec n = [dig n] := by rw [dec, dif_pos h]
theorem dec_great {n : Nat} (h : ¬ n < 10) : dec n = dec (n / 10) ++ [dig (n % 10)] := by rw [dec, dif_neg h]
theorem dec_len (n : Nat) : ∀ k, n < 10 ^ (k + 1) → (dec n).length ≤ k + 1 := by
  intro k
  induction k generalizing n with
  | zero => intro h; rw [dec_small (by simpa using h)]; simp
  | succ k ih =>
    intro h
    by_cases h' : n < 10
    · rw [dec_small h']; simp
    · rw [dec_great h', List.length_append]
      have := ih (n / 10) (by rw [Nat.pow_succ] at h; omega)
      simp; omega
def bas (l : List UInt8) : ByteArray := ⟨l.toArray⟩
theorem bas_app (l m : List UInt8) : bas l ++ bas m = bas (l ++ m) := by
  apply ByteArray.ext; simp [bas, ByteArray.data_append]
theorem bas_inj {l m : List UInt8} (h : bas l = bas m) : l = m := by
  have := congrArg (fun b => b.data.toList) h; simpa [bas] using this
theorem digit_u8 (k : Nat) (h : k < 10) : (((dig k).toNat : Nat) : Int) = 48 + (k : Int) := by
  unfold dig
  have : (UInt8.ofNat (48 + k)).toNat = 48 + k := by rw [UInt8.toNat_ofNat']; omega
  rw [this]; omega
/-- A byte's slice is read back. -/
theorem back1 (w W : World) (b c : Nat) (k : Nat) (h : k < 10) (hc : W.cell? ⟨b, 0, none⟩ = some (.int .u8 (48 + (k : Int)))) : (convert 78 9 (.slice (some ⟨b, 0, none⟩) 1 c)).run Tryz.prog W = .ok (.string (bas [dig k])) W := by
  refine run_convert_bytes_back (P := Tryz.prog) W 78 9 5 ⟨b, 0, none⟩ c [dig k] Tryz.underlying78 Tryz.underlying5 Tryz.underlying9 ?_
  intro j hj
  have : j = 0 := by simpa using hj
  subst this
  simp only [List.getElem_cons_zero, digit_u8 k h]
  simpa [Addr.add] using hc
def RetNum (w : World) (l : List UInt8) (e : Ending) (w' : World) : Prop := e = .returned (.string (bas l)) ∧ Below w.heap.size w w'
/-- A square's text. -/
def txQ (s : Sq) : List UInt8 := 59 :: (dec s.x.toNat ++ 44 :: (dec s.y.toNat ++ 44 :: dec s.d.toNat))
/-- A cut's text. -/
def txC (W H : Nat) (L : List Sq) : List UInt8 := dec W ++ 120 :: dec H ++ (L.map txQ).flatten
theorem dec_6 {n : Nat} (h : n ≤ 1000) : (dec n).length ≤ 6 := dec_len n 5 (by omega)
theorem txQ_len {s : Sq} (h : (0 ≤ s.x ∧ s.x ≤ 1000) ∧ (0 ≤ s.y ∧ s.y ≤ 1000) ∧ (0 ≤ s.d ∧ s.d ≤ 1000)) : (txQ s).length ≤ 21 := by
  have a := dec_6 (n := s.x.toNat) (by omega)
  have b := dec_6 (n := s.y.toNat) (by omega)
  have c := dec_6 (n := s.d.toNat) (by omega)
  simp [txQ]; omega
def SmS (s : Sq) : Prop := (0 ≤ s.x ∧ s.x ≤ 1000) ∧ (0 ≤ s.y ∧ s.y ≤ 1000) ∧ (0 ≤ s.d ∧ s.d ≤ 1000)
theorem txC_len {W H : Nat} (hW : W ≤ 1000) (hH : H ≤ 1000) (L : List Sq) (hs : ∀ s ∈ L, SmS s) : (txC W H L).length ≤ 13 + 21 * L.length := by
  have a := dec_6 hW
  have b := dec_6 hH
  have c : (L.map txQ).flatten.length ≤ 21 * L.length := by
    induction L with
    | nil => simp
    | cons s L ih =>
      have h1 := txQ_len (hs s (by simp))
      have h2 := ih fun t ht => hs t (by simp [ht])
      simp only [List.map_cons, List.flatten_cons, List.length_append, List.length_cons]; omega
  simp only [txC, List.length_append, List.length_cons]; omega
theorem txC_zero (W H : Nat) (L : List Sq) : txC W H (L.take 0) = dec W ++ 120 :: dec H := by simp [txC]
theorem txC_succ (W H : Nat) (L : List Sq) (k : Nat) (s : Sq) (h : L[k]? = some s) : txC W H (L.take (k + 1)) = txC W H (L.take k) ++ txQ s := by
  obtain ⟨hk, e⟩ := List.getElem?_eq_some_iff.1 h
  rw [List.take_succ_eq_append_getElem hk, e]; simp [txC]
theorem bas_size (l : List UInt8) : (bas l).size = l.length := by simp [bas, ByteArray.size]
theorem str120 : (⟨#[120]⟩ : ByteArray) = bas [120] := rfl
theorem str59 : (⟨#[59]⟩ : ByteArray) = bas [59] := rfl
theorem str44 : (⟨#[44]⟩ : ByteArray) = bas [44] := rfl
end Go.Proofs.YtfkifcjjkaenhaaGreatDoor
