/- What clues tell of a cut: plain. -/
import Derived.Test.YtpbghalljfcaoaaPzA
import Derived.Test.YtpbghalljfcaoaaCrossI
import Derived.Test.YtpbghalljfcaoaaEdges
import Derived.Test.YtpbghalljfcaoaaAt
import Derived.Test.YtpbghalljfcaoaaLongK
set_option linter.all false
namespace Go.Proofs.Ytpbghalljfcaoaa
open Go.RowKit

noncomputable def lineN (W H : Int) (L : List Sq) : Int := Classical.epsilon fun m => LongSays W H L m true
theorem lineN_eq {W H m : Int} {L : List Sq} {ok : Bool} (h : LongSays W H L m ok) (hG : Good W H L) : m = lineN W H L := by
  have hok : ok = true := by
    rcases h with ⟨_, h, _⟩ | ⟨h, _⟩
    · exact h
    · exact absurd hG h
  subst hok
  exact (h.unique (Classical.epsilon_spec (p := fun m => LongSays W H L m true) ⟨m, h⟩)).1
noncomputable def atN (W H : Int) (L : List Sq) (x y : Int) : Int := Classical.epsilon fun i => ∃ ok, AtSays W H L x y i ok
theorem atN_eq {W H x y i : Int} {L : List Sq} {ok : Bool} (h : AtSays W H L x y i ok) : i = atN W H L x y := by
  obtain ⟨ok', h'⟩ := Classical.epsilon_spec (p := fun i => ∃ ok, AtSays W H L x y i ok) ⟨i, ok, h⟩
  exact (h.unique h').1
noncomputable def atB (W H : Int) (L : List Sq) (x y : Int) : Bool := Classical.epsilon fun ok => ∃ i, AtSays W H L x y i ok
theorem atB_eq {W H x y i : Int} {L : List Sq} {ok : Bool} (h : AtSays W H L x y i ok) : ok = atB W H L x y := by
  obtain ⟨i', h'⟩ := Classical.epsilon_spec (p := fun ok => ∃ i, AtSays W H L x y i ok) ⟨ok, i, h⟩
  exact (h.unique h').2
theorem at_says {W H x y i : Int} {L : List Sq} {ok : Bool} (h : AtSays W H L x y i ok) : AtSays W H L x y (atN W H L x y) (atB W H L x y) := by
  rw [← atN_eq h, ← atB_eq h]; exact h
theorem at_det {P : Program} {f : FuncId} {args : Array Value} {W H x y : Int} {L : List Sq} {w : World} (h : Calls P f args w (RetAt w W H L x y)) :
    Calls P f args w fun e w' => e = .returned (.tuple #[.int .i64 (atN W H L x y), .bool (atB W H L x y)]) ∧ Below w.heap.size w w' :=
  h.mono fun _ _ ⟨_, _, he, hs, hb⟩ => ⟨by rw [he, atN_eq hs, atB_eq hs], hb⟩
theorem at_lt {W H x y i : Int} {L : List Sq} {ok : Bool} (h : AtSays W H L x y i ok) (hG : Good W H L) : ∃ (k : Nat) (s : Sq), i = k ∧ L[k]? = some s := by
  rcases h with ⟨_, _, k, s, hk, _, _, rfl⟩ | ⟨_, _, rfl⟩
  · exact ⟨k, s, rfl, hk⟩
  · have h1 := hG.2.2.1.1
    exact ⟨0, _, rfl, List.getElem?_eq_getElem (by omega)⟩
/-- The side of the square that a cell is in. -/
noncomputable def cellN (W H : Int) (L : List Sq) (a : Int) : Int := (L[(atN W H L (a.tmod W) (wrap64 (a.tdiv W))).toNat]?.getD default).d
theorem atN_lt (W H : Int) (L : List Sq) (x y : Int) (hG : Good W H L) : ∃ (k : Nat) (s : Sq), atN W H L x y = k ∧ L[k]? = some s := by
  have hex : ∃ i ok, AtSays W H L x y i ok := by
    by_cases h : ∃ (k : Nat) (s : Sq), L[k]? = some s ∧ InSq s x y ∧ ∀ (j : Nat) (t : Sq), j < k → L[j]? = some t → ¬ InSq t x y
    · obtain ⟨k, s, h1, h2, h3⟩ := h
      exact ⟨k, true, .inl ⟨hG, rfl, k, s, h1, h2, h3, rfl⟩⟩
    · refine ⟨0, false, .inr ⟨.inr fun j t ht hin => h ?_, rfl, rfl⟩⟩
      induction j using Nat.strongRecOn generalizing t with
      | ind j ih =>
        by_cases h4 : ∃ (i : Nat) (q : Sq), i < j ∧ L[i]? = some q ∧ InSq q x y
        · obtain ⟨i, q, h5, h6, h7⟩ := h4
          exact ih i h5 q h6 h7
        · exact ⟨j, t, ht, hin, fun i q h5 h6 h7 => h4 ⟨i, q, h5, h6, h7⟩⟩
  obtain ⟨i, ok, h⟩ := hex
  obtain ⟨k, s, hi, hs⟩ := at_lt h hG
  exact ⟨k, s, by rw [← atN_eq h, hi], hs⟩
theorem cellN_eq {W H a : Int} {L : List Sq} {k : Nat} {s : Sq} (h : atN W H L (a.tmod W) (wrap64 (a.tdiv W)) = k) (hs : L[k]? = some s) : cellN W H L a = s.d := by
  unfold cellN
  rw [h]
  simp [hs]
def sideN (L : List Sq) (a : Int) : Nat := (L.filter fun s => s.d == a).length
def edgeN (W H : Int) (L : List Sq) (a : Int) : Int := (edgesU W H L L.length)[a.toNat]?.getD 0
/-- What a clue of a kind tells of a cut. -/
noncomputable def valN (W H : Int) (L : List Sq) (k a : Int) : Int :=
  if k = 0 then L.length else if k = 1 then sideN L a else if k = 2 then cellN W H L a else if k = 3 then edgeN W H L a else if k = 4 then (crossL L L.length).length else lineN W H L
def aloneB (k : Int) : Bool := k == 0 || decide (3 < k)
/-- A clue with what a cut has. -/
noncomputable def hasIt (W H : Int) (L : List Sq) (c : Sq) : Sq := if aloneB c.x then ⟨c.x, valN W H L c.x 0, c.d⟩ else ⟨c.x, c.y, valN W H L c.x c.y⟩
noncomputable def fitN (W H : Int) (L : List Sq) (c : Sq) : Bool := if aloneB c.x then valN W H L c.x 0 == c.y else valN W H L c.x c.y == c.d
theorem hasIt_fit (W H : Int) (L : List Sq) (c : Sq) : fitN W H L c = ((hasIt W H L c).x == c.x && (hasIt W H L c).y == c.y && (hasIt W H L c).d == c.d) := by
  unfold hasIt fitN
  split <;> simp
end Go.Proofs.Ytpbghalljfcaoaa
