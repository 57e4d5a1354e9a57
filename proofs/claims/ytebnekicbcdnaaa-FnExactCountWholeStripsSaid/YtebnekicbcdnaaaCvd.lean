/- A filled cut as it is handed on; rows whose blocks are as they were. -/
import Derived.Test.YtebnekicbcdnaaaApp
import Derived.Test.YtebnekicbcdnaaaCtG
set_option linter.all false
namespace Go.Proofs.Ytebnekicbcdnaaa
open Go.RowKit

/-- A filled cut as it is handed on: its squares, where they lie, and the room there. -/
abbrev CV := List Sq × Option Addr × Nat
def encC (W H : Int) (x : CV) : Array Value := #[.agg #[.int .i64 W, .int .i64 H, .slice x.2.1 x.1.length x.2.2]]
def OkC (B : Nat) (X : Nat → Prop) (x : CV) (W : World) : Prop :=
  W.ownsRow B 96 3 (.slice x.2.1 x.1.length x.2.2) x.1.length (flat x.1) ∧ ∀ b, (Value.slice x.2.1 x.1.length x.2.2).ownBlock = some b → ¬ X b
theorem own_of_block {A C : World} {B e s n : Nat} {v : Value} {xs : List Value} (h : A.ownsRow B e s v n xs) (hb : ∀ k, v.ownBlock = some k → C.heap[k]? = A.heap[k]?) : C.ownsRow B e s v n xs := by
  obtain ⟨h1, h2⟩ := h
  refine ⟨h1, ?_⟩
  rcases h2 with h2 | ⟨g, cap, cur, hv, hg, hh, r⟩
  · exact .inl h2
  · exact .inr ⟨g, cap, cur, hv, hg, by rw [hb g (by rw [hv]; rfl)]; exact hh, r⟩
theorem own_pop {C : World} {B e s n c : Nat} {A : Option Addr} {xs ys : List Value} (h : C.ownsRow B e s (.slice A (n + 1) c) (n + 1) (xs ++ ys)) (hx : xs.length = n * s) : C.ownsRow B e s (.slice A n c) n xs := by
  obtain ⟨h1, h2⟩ := h
  refine ⟨hx, ?_⟩
  rcases h2 with ⟨h2, h3⟩ | ⟨g, cap, cur, hv, hg, hh, h3, h4, h5, h6⟩
  · omega
  · cases hv
    refine .inr ⟨g, c, cur, rfl, hg, hh, by omega, h4, h5, ?_⟩
    have e := congrArg (List.take (n * s)) h6
    rw [List.take_take, List.take_left' hx] at e
    have : min (n * s) ((n + 1) * s) = n * s := by rw [Nat.add_mul]; omega
    rwa [this] at e
theorem own_nilF {C : World} {B e s n c : Nat} {xs : List Value} {A : World} (h : A.ownsRow B e s (.slice none n c) n xs) : C.ownsRow B e s (.slice none n c) n xs := own_of_block h (fun k hk => by cases hk)
theorem own_none {A : World} {B e s n c : Nat} {xs : List Value} (h : A.ownsRow B e s (.slice none n c) n xs) : n = 0 ∧ c = 0 := by
  rcases h.2 with ⟨hv, h0⟩ | ⟨g, cap, cur, hv, _⟩
  · cases hv; exact ⟨h0, rfl⟩
  · cases hv

end Go.Proofs.Ytebnekicbcdnaaa
